/-
  Simplify in the model: the contract of its recursion, and of the whole.
-/
import Derived.Test.YtkknbapcbcialaaSimpI
namespace Go.Proofs.Ytkknbapcbcialaa
open Go.RowKit

/-- The points of a row, as a list. -/
def ptsL (X Y : Nat → Int) (n : Nat) : List (Int × Int) := (List.range n).map fun i => (X i, Y i)
theorem ptsL_len (X Y : Nat → Int) (n : Nat) : (ptsL X Y n).length = n := by simp [ptsL]
theorem ptsL_at {X Y : Nat → Int} {n i : Nat} (h : i < n) : (ptsL X Y n).getD i (0, 0) = (X i, Y i) := by
  simp [ptsL, List.getD, h]
theorem add_none (b off j : Nat) : (⟨b, off, none⟩ : Addr).add j = ⟨b, off + j, none⟩ := by unfold Addr.add; split <;> simp_all
/-- Cells that lie pair by pair lie one by one. -/
theorem news_list {w : World} {b off : Nat} {ps : List (Int × Int)} (h : ∀ i, i < ps.length → w.cell? ⟨b, off + i * 2, none⟩ = some (.int .i64 (ps.getD i (0, 0)).1) ∧ w.cell? ⟨b, off + i * 2 + 1, none⟩ = some (.int .i64 (ps.getD i (0, 0)).2)) :
    ∀ (j : Nat) (u : Value), (cellsP ps)[j]? = some u → w.cell? ((⟨b, off, none⟩ : Addr).add j) = some u := by
  intro j u hj
  have hlt : j < (cellsP ps).length := by
    rcases Nat.lt_or_ge j (cellsP ps).length with k | k
    · exact k
    · rw [List.getElem?_eq_none k] at hj; cases hj
  rw [cellsP_len] at hlt
  obtain ⟨c0, c1⟩ := cellsP_at ps (j / 2) (by omega)
  obtain ⟨d0, d1⟩ := h (j / 2) (by omega)
  rw [add_none]
  rcases (show j = j / 2 * 2 ∨ j = j / 2 * 2 + 1 by omega) with e | e
  · rw [← e] at c0 d0
    rw [d0, ← c0, hj]
  · rw [← e] at c1
    rw [Nat.add_assoc, ← e] at d1
    rw [d1, ← c1, hj]
theorem Pts.news {w : World} {b off n : Nat} {X Y : Nat → Int} (h : Pts w (some ⟨b, off, none⟩) n X Y) : ∀ (j : Nat) (u : Value), (cellsP (ptsL X Y n))[j]? = some u → w.cell? ((⟨b, off, none⟩ : Addr).add j) = some u := by
  apply news_list
  intro i hi
  rw [ptsL_len] at hi
  rw [ptsL_at hi]
  rcases h with h | ⟨b', off', e, _, h3⟩
  · omega
  · cases e
    exact h3 i hi
theorem sl_few {s : Int} (h0 : 0 ≤ s) {f : Nat} {X Y : Nat → Int} {n : Nat} (h : n < 3) (hf : n ≤ f) : ptsL X Y n = sl s f X Y n := by
  match n, h with
  | 0, _ => rfl
  | 1, _ => rw [sl_some (by decide), kp_few (by decide)]; rfl
  | 2, _ =>
    obtain ⟨f, rfl⟩ : ∃ g, f = g + 1 := ⟨f - 1, by omega⟩
    rw [sl_some (by decide), kp_one (by decide) (by show (-1 : Int) ≤ s; omega)]; rfl
/-- A row of the call's own that holds something: where it lies. -/
theorem Own.block {base : Nat} {w : World} {v : Value} {ps : List (Int × Int)} (h : Own base w v ps) (hp : 0 < ps.length) :
    ∃ g c, v = .slice (some ⟨g, 0, none⟩) ps.length c ∧ ps.length ≤ c ∧ g < w.heap.size ∧ ∀ i, i < ps.length → w.cell? ⟨g, i * 2, none⟩ = some (.int .i64 (ps.getD i (0, 0)).1) ∧ w.cell? ⟨g, i * 2 + 1, none⟩ = some (.int .i64 (ps.getD i (0, 0)).2) := by
  have h' := h
  rcases h.2 with ⟨_, e⟩ | ⟨g, cap, cur, rfl, e2, e3, e4, e5⟩
  · omega
  · have hlt : g < w.heap.size := by
      rcases Nat.lt_or_ge g w.heap.size with h | h
      · exact h
      · rw [Array.getElem?_eq_none h] at e3; cases e3
    refine ⟨g, cap, rfl, e4, hlt, fun i hi => ?_⟩
    obtain ⟨c0, c1⟩ := cellsP_at ps i hi
    exact ⟨(h'.cellAt _ (by omega)).trans c0, (h'.cellAt _ (by omega)).trans c1⟩

end Go.Proofs.Ytkknbapcbcialaa
