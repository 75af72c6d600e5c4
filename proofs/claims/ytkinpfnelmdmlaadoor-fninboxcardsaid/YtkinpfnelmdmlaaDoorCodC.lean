/-
  Contracts of CodeOf, in the program and in its model: for every point.
-/
import Derived.Test.YtkinpfnelmdmlaaDoorBitC
import Derived.Test.YtkinpfnelmdmlaaDoorTurnC
import Derived.Test.YtkinpfnelmdmlaaDoorMem
import Derived.Deep.RegionHeld3
namespace Go.Proofs.YtkinpfnelmdmlaaDoor
open Go.RowKit

/-- The code of a point that can be. -/
def mix (x y : Int) : Int := bits .or .u64 ((spr 25 (x + 16777216).toNat : Nat) : Int) (IntKind.u64.wrap (((spr 25 (y + 16777216).toNat : Nat) : Int) * 2))
def cod (x y : Int) : Int := if pok x y = true then mix x y else 0
theorem cod_yes {x y : Int} (h : pok x y = true) : cod x y = mix x y := if_pos h
theorem cod_no {x y : Int} (h : pok x y = false) : cod x y = 0 := if_neg (by rw [h]; exact Bool.false_ne_true)

set_option maxRecDepth 100000 in
set_option maxHeartbeats 1000000 in
theorem codeOf_any (x y : Int) (w : World) (hT : SpTab w) :
    Calls Tryd.prog 11 #[pt x y] w fun e w' => e = .returned (.int .u64 (cod x y)) ∧ Bel w w' := by
  have hb0 : Bel w (w.alloc (.cells #[.int .i64 x, .int .i64 y] 26)) := bel_alloc (Bel.refl _) _
  go_enter Tryd.func11, Tryd.ntmps11
  go_wp2_with fail
  refine (pointOk_any _ _ _).mono ?_
  rintro e w1 ⟨rfl, hb1⟩
  cases hok : pok x y
  · have HC : Hid (cod x y = 0) := cod_no hok
    go_wp2
    go_ret
    exact ⟨by rw [HC.out]; rfl, bel_step hb0 hb1⟩
  · have HC : Hid (cod x y = mix x y) := cod_yes hok
    have hp := pOk_iff.1 hok
    obtain ⟨p0, p1, p2, p3⟩ := hp
    obtain ⟨m, hm⟩ : ∃ m : Nat, x + 16777216 = m := ⟨(x + 16777216).toNat, by omega⟩
    obtain ⟨n, hn⟩ : ∃ m : Nat, y + 16777216 = m := ⟨(y + 16777216).toNat, by omega⟩
    have hxw : IntKind.i64.wrap (x + 16777216) = (m : Int) := by rw [IntKind.wrap_i64]; omega
    have hyw : IntKind.i64.wrap (y + 16777216) = (n : Int) := by rw [IntKind.wrap_i64]; omega
    have hm1 : m < 33554432 := by omega
    have hn1 : n < 33554432 := by omega
    have HM : Hid (mix x y = bits .or .u64 ((spr 25 m : Nat) : Int) (IntKind.u64.wrap (((spr 25 n : Nat) : Int) * 2))) := by
      show mix x y = _
      unfold mix; rw [hm, hn]; rfl
    have hT1 : SpTab w1 := hT.bel (bel_step hb0 hb1)
    have g0 : Bel w1 w1 := Bel.refl _
    have X1 : Blk w1 w.heap.size [.int .i64 x, .int .i64 y] := (Blk.new w [.int .i64 x, .int .i64 y] _).bel hb1
    have hR : ∀ w', Bel w1 w' → w'.cell? ⟨w.heap.size, 0, none⟩ = some (.int .i64 x) ∧ w'.cell? ⟨w.heap.size, 1, none⟩ = some (.int .i64 y) := fun w' h => ⟨(X1.bel h).cell 0 (by simp), (X1.bel h).cell 1 (by simp)⟩
    clear hm hn hok
    go_wp2
    go_region_held3 (fun w' => Bel w1 w') (with_reducible (repeat (first | exact g0 | refine Bel.drew ?_ | assumption)))
      (first
        | (go_at_call 23; refine (spread_any _ _ (hT1.bel (by assumption)) (by assumption)).mono ?_; rintro e w' ⟨rfl, rfl⟩))
    go_wp2
    go_ret
    exact ⟨by rw [HC.out, HM.out]; rfl, bel_step (bel_step hb0 hb1) (by assumption)⟩
end Go.Proofs.YtkinpfnelmdmlaaDoor
