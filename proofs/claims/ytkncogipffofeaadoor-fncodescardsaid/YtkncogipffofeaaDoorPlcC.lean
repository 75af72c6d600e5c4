/-
  Contracts of PointOf and CellBox and of what they call, in the program and in its model: for every code, for every cell.
-/
import Derived.Test.YtkncogipffofeaaDoorBitC
import Derived.Test.YtkncogipffofeaaDoorTurnC
import Derived.Test.YtkncogipffofeaaDoorMem
namespace Go.Proofs.YtkncogipffofeaaDoor
open Go.RowKit

/-- The place of a code. -/
def plX (c : Nat) : Int := ((gth 25 c : Nat) : Int) - 16777216
def plY (c : Nat) : Int := ((gth 25 (c / 2) : Nat) : Int) - 16777216

set_option maxRecDepth 100000 in
set_option maxHeartbeats 1000000 in
theorem placeOf_any (c : Nat) (w : World) (hT : GtTab w) (hc : c < 1125899906842624) :
    Calls Tryd.prog 19 #[.int .u64 c] w fun e w' => e = .returned (pt (plX c) (plY c)) ∧ Bel w w' := by
  have h1 := gth_lt 25 c
  have h2 := gth_lt 25 (c / 2)
  obtain ⟨d, hd⟩ : ∃ d : Nat, (c : Int) / 2 = d := ⟨c / 2, rfl⟩
  have ed : c / 2 = d := by omega
  have HX : Hid (plX c = ((gth 25 c : Nat) : Int) - 16777216) := (rfl : plX c = _)
  have HY : Hid (plY c = ((gth 25 d : Nat) : Int) - 16777216) := by
    show plY c = _
    rw [← ed]; rfl
  rw [ed] at h2
  have hd1 : d < 1125899906842624 := by omega
  have hT1 : ∀ o, GtTab (w.alloc o) := fun o => hT.bel (bel_alloc (Bel.refl _) o)
  clear ed
  go_enter Tryd.func19, Tryd.ntmps19
  go_wp2_with (first | (go_at_call 29; refine (gather_any _ _ (hT1 _) (by assumption)).mono ?_; rintro e w' ⟨rfl, rfl⟩))
  exact bodyPost_ret (v := pt (((gth 25 c : Nat) : Int) - 16777216) (((gth 25 d : Nat) : Int) - 16777216)) (by simp [results, Tryd.results19, go_sem]) rfl ⟨by rw [HX.out, HY.out], bel_alloc (Bel.refl _) _⟩
end Go.Proofs.YtkncogipffofeaaDoor
