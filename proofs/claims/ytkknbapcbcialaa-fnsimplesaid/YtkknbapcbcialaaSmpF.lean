/-
  What the law FnSimple asks of a row that was simplified.
-/
import Derived.Test.YtkknbapcbcialaaSmpN
import Derived.Test.YtkknbapcbcialaaOwnC
namespace Go.Proofs.Ytkknbapcbcialaa
open Go.RowKit

theorem getD_at {l : List (Int × Int)} {k : Nat} (h : k < l.length) : l[k]? = some (lX l k, lY l k) := by
  rw [List.getElem?_eq_getElem h]; simp [lX, lY, List.getD, h]
theorem rowL_at {X Y : Nat → Int} {m i : Nat} (h : i < m) : (rowL X Y m).drop i = (X i, Y i) :: (rowL X Y m).drop (i + 1) := by
  have hl : i < (rowL X Y m).length := by simp [rowL]; exact h
  rw [List.drop_eq_getElem_cons hl]
  simp [rowL]
/-- All that the law asks, but for the match. -/
structure Smp (q : Int) (m : Nat) (X Y : Nat → Int) (L : List (Int × Int)) : Prop where
  pos : 0 < L.length
  le : L.length ≤ m
  first : lX L 0 = X 0 ∧ lY L 0 = Y 0
  last : lX L (L.length - 1) = X (m - 1) ∧ lY L (L.length - 1) = Y (m - 1)
  row : rowB L.length (lX L) (lY L) = true
  near : ∀ i, i < m → nrF L.length (lX L) (lY L) (X i) (Y i) (legs L.length) ≤ q
  sub : L.Sublist (rowL X Y m)
theorem smp_of {q : Int} {m : Nat} {X Y : Nat → Int} (h0 : 0 ≤ q) (m0 : m ≠ 0) (hr : rowB m X Y = true) : Smp q m X Y (sl q m X Y m) := by
  obtain ⟨hm, hok⟩ := rowB_out hr
  have hsub := sl_sub (X := X) (Y := Y) h0 (Nat.le_refl m) m0
  have hle : (sl q m X Y m).length ≤ m := by have := hsub.length_le; simpa [rowL] using this
  obtain ⟨p, ep⟩ := sl_last (s := q) (f := m) (X := X) (Y := Y) m0
  have hfirst : ∃ t, sl q m X Y m = (X 0, Y 0) :: t := by
    by_cases h2 : 2 ≤ m
    · exact sl_first h0 (Nat.le_refl m) h2
    · obtain rfl : m = 1 := by omega
      exact ⟨[], by rw [sl_some m0, kp_few (by omega)]; rfl⟩
  obtain ⟨t, et⟩ := hfirst
  refine ⟨by rw [et]; simp, hle, by rw [et]; exact ⟨rfl, rfl⟩, ?_, ?_, ?_, hsub⟩
  · rw [ep]; simp [lX, lY, List.getD]
  · refine rowB_true (by omega) fun i hi => ?_
    have hmem : (lX (sl q m X Y m) i, lY (sl q m X Y m) i) ∈ sl q m X Y m := List.mem_of_getElem? (getD_at hi)
    have := hsub.subset hmem
    simp only [rowL, List.mem_map, List.mem_range] at this
    obtain ⟨j, hj, e⟩ := this
    rw [← (Prod.mk.inj e).1, ← (Prod.mk.inj e).2]
    exact pOk_iff.2 (hok j hj)
  · intro i hi
    by_cases h2 : 2 ≤ m
    · obtain ⟨a, b, hA, hd⟩ := sl_near h0 m X Y m (Nat.le_refl m) h2 i hi
      exact Int.le_trans (near_adj hA) hd
    · obtain rfl : m = 1 := by omega
      obtain rfl : i = 0 := by omega
      have e : sl q 1 X Y 1 = [(X 0, Y 0)] := by rw [sl_some m0, kp_few (by omega)]; rfl
      rw [e]
      refine Int.le_trans (near_le (j := 0) (show 0 < legs 1 by decide)) ?_
      have := dl_a (X 0, Y 0) (X 0, Y 0)
      show dl (X 0) (Y 0) (X 0, Y 0) (X 0, Y 0) ≤ q
      simp only at this
      rw [this]; exact h0
end Go.Proofs.Ytkknbapcbcialaa
