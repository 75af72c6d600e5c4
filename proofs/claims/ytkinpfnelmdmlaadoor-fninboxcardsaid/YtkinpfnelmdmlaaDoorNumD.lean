/-
  Contract of numbersBy by distances: how two keys compare; the key of a point.
-/
import Derived.Test.YtkinpfnelmdmlaaDoorSrtS
import Derived.Test.YtkinpfnelmdmlaaDoorDistC
import Derived.Test.YtkinpfnelmdmlaaDoorPtsC
import Derived.Test.YtkinpfnelmdmlaaDoorMem
namespace Go.Proofs.YtkinpfnelmdmlaaDoor
open Go.RowKit Go.Maps Go.Shelf

theorem isNaN_anyX (x : Int) (w : World) : Calls Tryd.prog 44 #[.int .i64 x] w fun e w' => e = .returned (.bool false) ∧ w' = w := by
  go_enter Tryd.func44, Tryd.ntmps44
  go_wp2
  go_ret
  exact ⟨by simp, rfl⟩
set_option maxHeartbeats 1000000 in
theorem compare_anyX (x y : Int) (w : World) : Calls Tryd.prog 41 #[.int .i64 x, .int .i64 y] w fun e w' => e = .returned (.int .i64 (cmz x y)) ∧ w' = w := by
  by_cases h1 : x < y
  · have HZ : Hid (cmz x y = -1) := if_pos h1
    go_enter Tryd.func41, Tryd.ntmps41
    go_wp2_with (first | (go_at_call 44; refine (isNaN_anyX _ _).mono ?_; rintro e w' ⟨rfl, rfl⟩))
    go_ret
    exact ⟨by rw [HZ.out]; rfl, rfl⟩
  · by_cases h2 : y < x
    · have HZ : Hid (cmz x y = 1) := (by unfold cmz; rw [if_neg h1, if_pos h2] : cmz x y = 1)
      go_enter Tryd.func41, Tryd.ntmps41
      go_wp2_with (first | (go_at_call 44; refine (isNaN_anyX _ _).mono ?_; rintro e w' ⟨rfl, rfl⟩))
      go_ret
      exact ⟨by rw [HZ.out]; rfl, rfl⟩
    · have HZ : Hid (cmz x y = 0) := (by unfold cmz; rw [if_neg h1, if_neg h2] : cmz x y = 0)
      go_enter Tryd.func41, Tryd.ntmps41
      go_wp2_with (first | (go_at_call 44; refine (isNaN_anyX _ _).mono ?_; rintro e w' ⟨rfl, rfl⟩))
      go_ret
      exact ⟨by rw [HZ.out]; rfl, rfl⟩

/-- The keys, block k0, and the variable that leads to them, block k1. -/
structure KeysX (w : World) (k0 k1 n : Nat) (K : Nat → Int) : Prop where
  row : w.rowIs k0 2 n (fun i => .int .i64 (K i))
  var : Blk w k1 [.slice (some ⟨k0, 0, none⟩) n n]
theorem KeysX.bel {w w' : World} {k0 k1 n : Nat} {K : Nat → Int} (h : KeysX w k0 k1 n K) (hb : Bel w w') : KeysX w' k0 k1 n K := ⟨h.row.of_block (hb.out.block k0 h.row.lt), h.var.bel hb⟩
theorem KeysX.onl {w w' : World} {k0 k1 n : Nat} {K : Nat → Int} (h : KeysX w k0 k1 n K) {B : Nat} (O : Onl [B] w w') (h0 : k0 ≠ B) (h1 : k1 ≠ B) : KeysX w' k0 k1 n K :=
  ⟨h.row.of_block (O.block k0 h.row.lt (by simpa using h0)), ⟨Nat.lt_of_lt_of_le h.var.lt O.size, fun i hi => by rw [World.cell?_of_block (a := ⟨k1, i, none⟩) (O.block k1 h.var.lt (by simpa using h1))]; exact h.var.cell i hi, fun i => by rw [World.frozen?_of_block (a := ⟨k1, i, none⟩) (O.block k1 h.var.lt (by simpa using h1))]; exact h.var.free i⟩⟩

set_option maxRecDepth 100000 in
set_option maxHeartbeats 1000000 in
theorem keyLess_anyX (k0 k1 n : Nat) (K : Nat → Int) (w : World) (hK : KeysX w k0 k1 n K) (x y : Nat) (hx : x < n) (hy : y < n) :
    Calls Tryd.prog 40 #[.int .i64 x, .int .i64 y, .pointer (some ⟨k1, 0, none⟩)] w fun e w' => e = .returned (.int .i64 (cmz (K x) (K y))) ∧ Bel w w' := by
  have g0 : Bel w w := Bel.refl _
  have hR : ∀ w', Bel w w' → w'.cell? ⟨k1, 0, none⟩ = some (.slice (some ⟨k0, 0, none⟩) n n) ∧ w'.cell? ⟨k0, x, none⟩ = some (.int .i64 (K x)) ∧ w'.cell? ⟨k0, y, none⟩ = some (.int .i64 (K y)) := fun w' h =>
    ⟨(hK.bel h).var.cell 0 (by simp), (hK.bel h).row.cell hx, (hK.bel h).row.cell hy⟩
  have hx' : (x : Int) < (n : Int) := by omega
  have hy' : (y : Int) < (n : Int) := by omega
  go_enter Tryd.func40, Tryd.ntmps40
  go_wp2
  go_region_held3 (fun w' => Bel w w') (with_reducible (repeat (first | exact g0 | refine Bel.drew ?_ | assumption)))
    (first
      | (go_at_call 41; refine (compare_anyX _ _ _).mono ?_; rintro e w' ⟨rfl, rfl⟩))
  go_wp2
  go_ret
  exact ⟨rfl, by assumption⟩
theorem keyLess_cmpX {W : World} {B k0 k1 n : Nat} {K : Nat → Int} (hK : KeysX W k0 k1 n K) (h0 : k0 ≠ B) (h1 : k1 ≠ B) : CmpK W B n K 40 (.pointer (some ⟨k1, 0, none⟩)) :=
  fun _ w hS x y hx hy => keyLess_anyX k0 k1 n K w (hK.onl hS.onl h0 h1) x y hx hy

/-- The square of the distance from the point whose box is block B. -/
theorem sqKey_any (px py x y : Int) (B : Nat) (w : World) (hB : Blk w B [.int .i64 px, .int .i64 py]) (hp : POk px py) (hx : POk x y) :
    Calls Tryd.prog 27 #[pt x y, .pointer (some ⟨B, 0, none⟩)] w fun e w' => e = .returned (.int .i64 (dsq px py x y)) ∧ Bel w w' := by
  obtain ⟨p0, p1, p2, p3⟩ := hp
  obtain ⟨x0, x1, x2, x3⟩ := hx
  have hl := hB.lt
  have c0 := hB.cell 0 (by simp)
  have c1 := hB.cell 1 (by simp)
  simp only [List.getElem_cons_zero, List.getElem_cons_succ] at c0 c1
  have hb0 : Bel w (w.alloc (.cells #[.int .i64 x, .int .i64 y] 26)) := bel_alloc (Bel.refl _) _
  have hxx := mul_bd7 (u := x - px) (v := x - px) (by omega) (by omega) (by omega) (by omega)
  have hyy := mul_bd7 (u := y - py) (v := y - py) (by omega) (by omega) (by omega) (by omega)
  go_enter Tryd.func27, Tryd.ntmps27
  go_wp2_with fail
  refine (minus_any _ _ _ _ _ ⟨x0, x1, x2, x3⟩ ⟨p0, p1, p2, p3⟩).mono ?_
  rintro e w1 ⟨rfl, hb1⟩
  go_wp2_with fail
  refine (dot_any _ _ _ _ _ hxx.1 hxx.2 hyy.1 hyy.2).mono ?_
  rintro e w2 ⟨rfl, hb2⟩
  go_wp2
  go_ret
  exact ⟨rfl, bel_step (bel_alloc (bel_step hb0 hb1) _) hb2⟩
end Go.Proofs.YtkinpfnelmdmlaaDoor
