/-
  What is left of a row that was simplified: both ends, and no point of the row lies farther from it than was said.
-/
import Derived.Test.YtkknbapcbcialaaSimpM
namespace Go.Proofs.Ytkknbapcbcialaa
open Go.RowKit

/-- How far a point lies from a stretch. -/
def dl (px py : Int) (a b : Int × Int) : Int := dOf px py (footX a.1 a.2 b.1 b.2 px py) (footY a.1 a.2 b.1 b.2 px py)
theorem dOf_self (x y : Int) : dOf x y x y = 0 := by
  unfold dOf dsq
  have e : (x - x) * (x - x) + (y - y) * (y - y) = 0 := by rw [Int.sub_self, Int.sub_self]; rfl
  rw [e]
  decide
theorem dl_a (a b : Int × Int) : dl a.1 a.2 a b = 0 := by
  have h : uvOf a.1 a.2 b.1 b.2 a.1 a.2 ≤ 0 := by unfold uvOf; rw [Int.sub_self, Int.sub_self, Int.mul_zero, Int.mul_zero]; decide
  unfold dl footX footY
  rw [if_pos h, if_pos h]
  exact dOf_self _ _
theorem dl_b (a b : Int × Int) : dl b.1 b.2 a b = 0 := by
  have e : uvOf a.1 a.2 b.1 b.2 b.1 b.2 = dsq a.1 a.2 b.1 b.2 := rfl
  unfold dl footX footY
  rw [e]
  by_cases h : dsq a.1 a.2 b.1 b.2 ≤ 0
  · rw [if_pos h, if_pos h]
    have h1 := sq_nonneg (b.1 - a.1)
    have h2 := sq_nonneg (b.2 - a.2)
    have hs : (b.1 - a.1) * (b.1 - a.1) + (b.2 - a.2) * (b.2 - a.2) ≤ 0 := h
    have z1 : (b.1 - a.1) * (b.1 - a.1) = 0 := by omega
    have z2 : (b.2 - a.2) * (b.2 - a.2) = 0 := by omega
    have y1 : b.1 - a.1 = 0 := by rcases Int.mul_eq_zero.1 z1 with h | h <;> exact h
    have y2 : b.2 - a.2 = 0 := by rcases Int.mul_eq_zero.1 z2 with h | h <;> exact h
    rw [show a.1 = b.1 by omega, show a.2 = b.2 by omega]
    exact dOf_self _ _
  · rw [if_neg h, if_neg h, if_pos (Int.le_refl _), if_pos (Int.le_refl _)]
    exact dOf_self _ _
theorem gD_ge (s : Int) (X Y : Nat → Int) (last : Nat) : ∀ k i, 1 ≤ i → i ≤ k → dI X Y last i ≤ gD s X Y last k
  | 0, i, h1, h2 => by omega
  | k + 1, i, h1, h2 => by
    simp only [gD]
    by_cases e : i = k + 1
    · subst e
      split <;> omega
    · have := gD_ge s X Y last k i h1 (by omega)
      split <;> omega
/-- Two items lie beside each other. -/
def Adj {α : Type} (l : List α) (a b : α) : Prop := ∃ p q, l = p ++ a :: b :: q
theorem Adj.left {α : Type} {l : List α} {a b : α} (h : Adj l a b) (r : List α) : Adj (l ++ r) a b := by
  obtain ⟨p, q, rfl⟩ := h
  exact ⟨p, q ++ r, by simp⟩
theorem Adj.right {α : Type} {l : List α} {a b : α} (h : Adj l a b) (r : List α) : Adj (r ++ l) a b := by
  obtain ⟨p, q, rfl⟩ := h
  exact ⟨r ++ p, q, by simp⟩
theorem sl_last {s : Int} {f : Nat} {X Y : Nat → Int} {n : Nat} (h : n ≠ 0) : ∃ p, sl s f X Y n = p ++ [(X (n - 1), Y (n - 1))] := ⟨_, sl_some h⟩
theorem sl_first {s : Int} (h0 : 0 ≤ s) {f : Nat} {X Y : Nat → Int} {n : Nat} (hn : n ≤ f) (h2 : 2 ≤ n) : ∃ t, sl s f X Y n = (X 0, Y 0) :: t := by
  obtain ⟨t, e⟩ := kp_head h0 f X Y n hn h2
  rw [sl_some (by omega), e]
  exact ⟨_, rfl⟩
/-- No point of the row lies farther than s from what is left. -/
theorem sl_near {s : Int} (h0 : 0 ≤ s) : ∀ (f : Nat) (X Y : Nat → Int) (n : Nat), n ≤ f → 2 ≤ n → ∀ i, i < n → ∃ a b, Adj (sl s f X Y n) a b ∧ dl (X i) (Y i) a b ≤ s
  | 0, _, _, n, hn, h2, _, _ => by omega
  | f + 1, X, Y, n, hn, h2, i, hi => by
    have h : ¬ n < 2 := by omega
    by_cases k : gD (-1) X Y (n - 1) (n - 2) ≤ s
    · refine ⟨(X 0, Y 0), (X (n - 1), Y (n - 1)), ⟨[], [], by rw [sl_some (by omega), kp_one h k]; rfl⟩, ?_⟩
      by_cases e0 : i = 0
      · subst e0; rw [dl_a (X 0, Y 0)]; exact h0
      · by_cases e1 : i = n - 1
        · subst e1; rw [dl_b (X 0, Y 0) (X (n - 1), Y (n - 1))]; exact h0
        · exact Int.le_trans (gD_ge (-1) X Y (n - 1) (n - 2) i (by omega) (by omega)) k
    · obtain ⟨_, _, a1, a2⟩ := (far_same h0 X Y (n - 1) (n - 2)).2 (by omega)
      rw [sl_two h0 (by omega) h k]
      generalize gA (-1) X Y (n - 1) (n - 2) = g at a1 a2 ⊢
      by_cases c : i ≤ g
      · obtain ⟨a, b, hA, hd⟩ := sl_near h0 f X Y (g + 1) (by omega) (by omega) i (by omega)
        exact ⟨a, b, hA.left _, hd⟩
      · obtain ⟨a, b, hA, hd⟩ := sl_near h0 f (fun i => X (g + i)) (fun i => Y (g + i)) (n - g) (by omega) (by omega) (i - g) (by omega)
        simp only [show g + (i - g) = i by omega] at hd
        refine ⟨a, b, ?_, hd⟩
        obtain ⟨t, et⟩ := sl_first h0 (f := f) (X := fun i => X (g + i)) (Y := fun i => Y (g + i)) (n := n - g) (by omega) (by omega)
        obtain ⟨p, ep⟩ := sl_last (s := s) (f := f) (X := X) (Y := Y) (n := g + 1) (by omega)
        rw [et] at hA ⊢
        rw [ep]
        simp only [Nat.add_sub_cancel, Nat.add_zero, List.tail_cons, List.append_assoc, List.singleton_append] at hA ⊢
        exact hA.right p
/-- The points of a row. -/
def rowL (X Y : Nat → Int) (n : Nat) : List (Int × Int) := (List.range n).map fun i => (X i, Y i)
theorem rowL_split (X Y : Nat → Int) (g m : Nat) : rowL X Y (g + m) = rowL X Y g ++ rowL (fun i => X (g + i)) (fun i => Y (g + i)) m := by
  unfold rowL
  rw [List.range_add, List.map_append, List.map_map]
  rfl
theorem rowL_one (X Y : Nat → Int) (n : Nat) : rowL X Y (n + 1) = (X 0, Y 0) :: rowL (fun i => X (1 + i)) (fun i => Y (1 + i)) n := by
  rw [Nat.add_comm, rowL_split]; rfl
theorem rowL_end (X Y : Nat → Int) (n : Nat) : rowL X Y (n + 1) = rowL X Y n ++ [(X n, Y n)] := by
  rw [rowL_split]; rfl
/-- What is left but for the last is of the row but for the last, in order. -/
theorem kp_sub {s : Int} (h0 : 0 ≤ s) : ∀ (f : Nat) (X Y : Nat → Int) (n : Nat), n ≤ f → (kp s f X Y n).Sublist (rowL X Y (n - 1))
  | 0, _, _, n, _ => by rw [kp_few (by omega)]; exact List.nil_sublist _
  | f + 1, X, Y, n, hn => by
    by_cases h : n < 2
    · rw [kp_few h]; exact List.nil_sublist _
    · by_cases k : gD (-1) X Y (n - 1) (n - 2) ≤ s
      · rw [kp_one h k, show n - 1 = (n - 2) + 1 by omega, rowL_one]
        exact (List.nil_sublist _).cons_cons _
      · obtain ⟨_, _, a1, a2⟩ := (far_same h0 X Y (n - 1) (n - 2)).2 (by omega)
        rw [kp_two h k]
        generalize gA (-1) X Y (n - 1) (n - 2) = g at a1 a2 ⊢
        have e : n - 1 = g + (n - g - 1) := by omega
        rw [e, rowL_split]
        have s1 := kp_sub h0 f X Y (g + 1) (by omega)
        have s2 := kp_sub h0 f (fun i => X (g + i)) (fun i => Y (g + i)) (n - g) (by omega)
        rw [Nat.add_sub_cancel] at s1
        exact s1.append s2
theorem sl_sub {s : Int} (h0 : 0 ≤ s) {f : Nat} {X Y : Nat → Int} {n : Nat} (hn : n ≤ f) (n0 : n ≠ 0) : (sl s f X Y n).Sublist (rowL X Y n) := by
  rw [sl_some n0]
  obtain ⟨m, rfl⟩ : ∃ m, n = m + 1 := ⟨n - 1, by omega⟩
  rw [rowL_end]
  exact (kp_sub h0 f X Y (m + 1) hn).append (List.Sublist.refl _)
/-- Step by step: what is still to be met is of what still comes. -/
theorem met_step {α : Type} [DecidableEq α] {l r : List α} {x : α} {k : Nat} (h : (l.drop k).Sublist (x :: r)) :
    (l.drop (if l[k]? = some x then k + 1 else k)).Sublist r := by
  by_cases e : l[k]? = some x
  · rw [if_pos e]
    obtain ⟨hk, ex⟩ := List.getElem?_eq_some_iff.1 e
    rw [List.drop_eq_getElem_cons hk, ex] at h
    exact List.Sublist.of_cons_cons h
  · rw [if_neg e]
    by_cases hk : k < l.length
    · rw [List.drop_eq_getElem_cons hk] at h ⊢
      rcases List.sublist_cons_iff.1 h with h | ⟨t, et, _⟩
      · exact h
      · exfalso
        apply e
        rw [List.getElem?_eq_getElem hk]
        exact congrArg some (List.cons.inj et).1
    · rw [List.drop_eq_nil_of_le (by omega)]
      exact List.nil_sublist _
end Go.Proofs.Ytkknbapcbcialaa
