/-
  Contracts of the question whether Ids ascend, for nodes, ways and areas: for every list.
-/
import Derived.Test.YtkinpfnelmdmlaaDoorXE
import Derived.Deep.LoopGhost
namespace Go.Proofs.YtkinpfnelmdmlaaDoor
open Go.RowKit

theorem asc_pos {n : Nat} {I : Nat → Int} {T : Nat → Bool} (h : AscP n I T) : ∀ k, k < n → 0 < I k
  | 0, hk => (h 0 hk).1
  | k + 1, hk => Int.lt_trans (asc_pos h k (by omega)) (h (k + 1) hk).1
theorem folB_at {n k : Nat} {I : Nat → Int} {T : Nat → Bool} (hk : k < n) (h : folB (prevI I k) (I k) (T k) = false) : bP (AscP n I T) = false :=
  bP_false fun hh => by have := hh k hk; have := asc_pos hh k hk; simp_all [folB, idK]
theorem folB_out {p i : Int} {t : Bool} (h : folB p i t = true) : p < i ∧ i ≤ 1000000000 ∧ t = true := by
  have h' : p < i ∧ (0 < i ∧ i ≤ 1000000000) ∧ t = true := by simpa [folB, idK] using h
  exact ⟨h'.1, h'.2.1.2, h'.2.2⟩

end Go.Proofs.YtkinpfnelmdmlaaDoor
