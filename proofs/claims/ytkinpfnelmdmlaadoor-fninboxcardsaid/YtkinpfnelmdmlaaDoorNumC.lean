/-
  Contract of numbersBy by codes: the numbers of a row of points, ordered by their codes.
-/
import Derived.Test.YtkinpfnelmdmlaaDoorSrtS
import Derived.Test.YtkinpfnelmdmlaaDoorCodC
import Derived.Test.YtkinpfnelmdmlaaDoorPtsC
import Derived.Test.YtkinpfnelmdmlaaDoorMem
namespace Go.Proofs.YtkinpfnelmdmlaaDoor
open Go.RowKit Go.Maps Go.Shelf

theorem isNaN_any (x : Int) (w : World) : Calls Tryd.prog 43 #[.int .u64 x] w fun e w' => e = .returned (.bool false) ∧ w' = w := by
  go_enter Tryd.func43, Tryd.ntmps43
  go_wp2
  go_ret
  exact ⟨by simp, rfl⟩
set_option maxHeartbeats 1000000 in
theorem compare_any (x y : Int) (w : World) : Calls Tryd.prog 37 #[.int .u64 x, .int .u64 y] w fun e w' => e = .returned (.int .i64 (cmz x y)) ∧ w' = w := by
  by_cases h1 : x < y
  · have HZ : Hid (cmz x y = -1) := if_pos h1
    go_enter Tryd.func37, Tryd.ntmps37
    go_wp2_with (first | (go_at_call 43; refine (isNaN_any _ _).mono ?_; rintro e w' ⟨rfl, rfl⟩))
    go_ret
    exact ⟨by rw [HZ.out]; rfl, rfl⟩
  · by_cases h2 : y < x
    · have HZ : Hid (cmz x y = 1) := (by unfold cmz; rw [if_neg h1, if_pos h2] : cmz x y = 1)
      go_enter Tryd.func37, Tryd.ntmps37
      go_wp2_with (first | (go_at_call 43; refine (isNaN_any _ _).mono ?_; rintro e w' ⟨rfl, rfl⟩))
      go_ret
      exact ⟨by rw [HZ.out]; rfl, rfl⟩
    · have HZ : Hid (cmz x y = 0) := (by unfold cmz; rw [if_neg h1, if_neg h2] : cmz x y = 0)
      go_enter Tryd.func37, Tryd.ntmps37
      go_wp2_with (first | (go_at_call 43; refine (isNaN_any _ _).mono ?_; rintro e w' ⟨rfl, rfl⟩))
      go_ret
      exact ⟨by rw [HZ.out]; rfl, rfl⟩

/-- The keys, block k0, and the variable that leads to them, block k1. -/
structure Keys (w : World) (k0 k1 n : Nat) (K : Nat → Int) : Prop where
  row : w.rowIs k0 37 n (fun i => .int .u64 (K i))
  var : Blk w k1 [.slice (some ⟨k0, 0, none⟩) n n]
theorem Keys.bel {w w' : World} {k0 k1 n : Nat} {K : Nat → Int} (h : Keys w k0 k1 n K) (hb : Bel w w') : Keys w' k0 k1 n K := ⟨h.row.of_block (hb.out.block k0 h.row.lt), h.var.bel hb⟩
theorem Keys.onl {w w' : World} {k0 k1 n : Nat} {K : Nat → Int} (h : Keys w k0 k1 n K) {B : Nat} (O : Onl [B] w w') (h0 : k0 ≠ B) (h1 : k1 ≠ B) : Keys w' k0 k1 n K :=
  ⟨h.row.of_block (O.block k0 h.row.lt (by simpa using h0)), ⟨Nat.lt_of_lt_of_le h.var.lt O.size, fun i hi => by rw [World.cell?_of_block (a := ⟨k1, i, none⟩) (O.block k1 h.var.lt (by simpa using h1))]; exact h.var.cell i hi, fun i => by rw [World.frozen?_of_block (a := ⟨k1, i, none⟩) (O.block k1 h.var.lt (by simpa using h1))]; exact h.var.free i⟩⟩

set_option maxRecDepth 100000 in
set_option maxHeartbeats 1000000 in
theorem keyLess_any (k0 k1 n : Nat) (K : Nat → Int) (w : World) (hK : Keys w k0 k1 n K) (x y : Nat) (hx : x < n) (hy : y < n) :
    Calls Tryd.prog 36 #[.int .i64 x, .int .i64 y, .pointer (some ⟨k1, 0, none⟩)] w fun e w' => e = .returned (.int .i64 (cmz (K x) (K y))) ∧ Bel w w' := by
  have g0 : Bel w w := Bel.refl _
  have hR : ∀ w', Bel w w' → w'.cell? ⟨k1, 0, none⟩ = some (.slice (some ⟨k0, 0, none⟩) n n) ∧ w'.cell? ⟨k0, x, none⟩ = some (.int .u64 (K x)) ∧ w'.cell? ⟨k0, y, none⟩ = some (.int .u64 (K y)) := fun w' h =>
    ⟨(hK.bel h).var.cell 0 (by simp), (hK.bel h).row.cell hx, (hK.bel h).row.cell hy⟩
  have hx' : (x : Int) < (n : Int) := by omega
  have hy' : (y : Int) < (n : Int) := by omega
  go_enter Tryd.func36, Tryd.ntmps36
  go_wp2
  go_region_held3 (fun w' => Bel w w') (with_reducible (repeat (first | exact g0 | refine Bel.drew ?_ | assumption)))
    (first
      | (go_at_call 37; refine (compare_any _ _ _).mono ?_; rintro e w' ⟨rfl, rfl⟩))
  go_wp2
  go_ret
  exact ⟨rfl, by assumption⟩
theorem keyLess_cmp {W : World} {B k0 k1 n : Nat} {K : Nat → Int} (hK : Keys W k0 k1 n K) (h0 : k0 ≠ B) (h1 : k1 ≠ B) : CmpK W B n K 36 (.pointer (some ⟨k1, 0, none⟩)) :=
  fun _ w hS x y hx hy => keyLess_any k0 k1 n K w (hK.onl hS.onl h0 h1) x y hx hy
end Go.Proofs.YtkinpfnelmdmlaaDoor
