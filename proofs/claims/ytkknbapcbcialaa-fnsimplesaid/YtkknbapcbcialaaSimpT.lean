/-
  Simplify in the model: the contract of its recursion, and of the whole.
-/
import Derived.Test.YtkknbapcbcialaaSimpS
namespace Go.Proofs.Ytkknbapcbcialaa
open Go.RowKit

theorem sl_len {s : Int} (h0 : 0 ≤ s) {f : Nat} {X Y : Nat → Int} {n : Nat} (hn : n ≤ f) : (sl s f X Y n).length ≤ n := by
  by_cases h : n = 0
  · subst h; simp [sl]
  · rw [sl_some h, List.length_append]
    have := kp_len h0 f X Y n hn
    simp
    omega
theorem sl_two_len {s : Int} (h0 : 0 ≤ s) {f : Nat} {X Y : Nat → Int} {n : Nat} (hn : n ≤ f) (h2 : 2 ≤ n) : 2 ≤ (sl s f X Y n).length := by
  obtain ⟨t, e⟩ := kp_head h0 f X Y n hn h2
  rw [sl_some (by omega), e]
  simp
/-- Two rows, one behind the other. -/
theorem Own.both {base : Nat} {w : World} {v : Value} {ps qs : List (Int × Int)} {m : Nat} (hm : m = qs.length) (h : w.ownsRow base 29 2 v (ps.length + m) (cellsP ps ++ cellsP qs)) : Own base w v (ps ++ qs) := by
  subst hm
  unfold Own
  rw [cellsP_app, List.length_append]
  exact h
theorem tail_cells {w : World} {g : Nat} {ps : List (Int × Int)} (h : ∀ i, i < ps.length → w.cell? ⟨g, i * 2, none⟩ = some (.int .i64 (ps.getD i (0, 0)).1) ∧ w.cell? ⟨g, i * 2 + 1, none⟩ = some (.int .i64 (ps.getD i (0, 0)).2)) :
    ∀ (j : Nat) (u : Value), (cellsP ps.tail)[j]? = some u → w.cell? ((⟨g, 2, none⟩ : Addr).add j) = some u := by
  apply news_list
  intro i hi
  rw [List.length_tail] at hi
  have e : ps.tail.getD i (0, 0) = ps.getD (i + 1) (0, 0) := by simp [List.getD, List.getElem?_tail]
  rw [e]
  obtain ⟨c0, c1⟩ := h (i + 1) (by omega)
  rw [show (i + 1) * 2 = 2 + i * 2 by omega] at c0 c1
  exact ⟨c0, c1⟩

theorem far_field (l a x y f : Int) (w : World) : (Instr.field 32 (ft l a x y f) 3).run Try.prog w = .ok (.int .i64 f) w := by kernel_rfl

end Go.Proofs.Ytkknbapcbcialaa
