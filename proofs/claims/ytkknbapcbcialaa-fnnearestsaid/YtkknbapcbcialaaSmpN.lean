/-
  The nearest place of what is left of a row is no farther than was said; at a great measure two points are left.
-/
import Derived.Test.YtkknbapcbcialaaSmpM
namespace Go.Proofs.Ytkknbapcbcialaa
open Go.RowKit

theorem best_le (n : Nat) (X Y : Nat → Int) (px py : Int) : ∀ k j, j ≤ k → legF n X Y px py (bestL n X Y px py k) ≤ legF n X Y px py j
  | 0, j, h => by obtain rfl : j = 0 := by omega
                  exact Int.le_refl _
  | k + 1, j, h => by
    simp only [bestL]
    by_cases e : j = k + 1
    · subst e
      by_cases c : legF n X Y px py (k + 1) < legF n X Y px py (bestL n X Y px py k)
      · rw [if_pos c]; exact Int.le_refl _
      · rw [if_neg c]; omega
    · have := best_le n X Y px py k j (by omega)
      by_cases c : legF n X Y px py (k + 1) < legF n X Y px py (bestL n X Y px py k)
      · rw [if_pos c]; omega
      · rw [if_neg c]; exact this
theorem near_le {n : Nat} {X Y : Nat → Int} {px py : Int} {k j : Nat} (h : j < k) : nrF n X Y px py k ≤ legF n X Y px py j := by
  cases k with
  | zero => omega
  | succ k => exact best_le n X Y px py k j (by omega)
/-- The nearest place of a row of points that has two that lie beside each other. -/
theorem near_adj {l : List (Int × Int)} {a b : Int × Int} {px py : Int} (h : Adj l a b) :
    nrF l.length (fun i => (l.getD i (0, 0)).1) (fun i => (l.getD i (0, 0)).2) px py (legs l.length) ≤ dl px py a b := by
  obtain ⟨p, q, rfl⟩ := h
  have hl : (p ++ a :: b :: q).length = p.length + 2 + q.length := by simp; omega
  have h0 : (p ++ a :: b :: q).getD p.length (0, 0) = a := by simp
  have h1 : (p ++ a :: b :: q).getD (p.length + 1) (0, 0) = b := by simp
  have ht : toI (p ++ a :: b :: q).length p.length = p.length + 1 := by unfold toI; rw [if_pos (by omega)]
  have hlegs : p.length < legs (p ++ a :: b :: q).length := by unfold legs; rw [if_neg (by omega)]; omega
  have := near_le (n := (p ++ a :: b :: q).length) (X := fun i => ((p ++ a :: b :: q).getD i (0, 0)).1) (Y := fun i => ((p ++ a :: b :: q).getD i (0, 0)).2) (px := px) (py := py) hlegs
  refine Int.le_trans this (Int.le_of_eq ?_)
  unfold legF legX legY dl
  rw [ht]
  simp only [h0, h1]
theorem gD_le {s M : Int} (hs : s ≤ M) {X Y : Nat → Int} {last : Nat} : ∀ k, (∀ i, 1 ≤ i → i ≤ k → dI X Y last i ≤ M) → gD s X Y last k ≤ M
  | 0, _ => hs
  | k + 1, h => by
    have h1 := gD_le hs k (fun i a b => h i a (by omega))
    have h2 := h (k + 1) (by omega) (Nat.le_refl _)
    simp only [gD]
    split <;> omega
theorem dI_le {X Y : Nat → Int} {n i : Nat} (hok : ∀ i, i < n → POk (X i) (Y i)) (hi : i < n) (n0 : 0 < n) : dI X Y (n - 1) i ≤ 1099511627776 := by
  have h := (dOf_bd (hok i hi) (foot_ok (x2 := X i) (y2 := Y i) (hok 0 n0) (hok (n - 1) (by omega)))).2
  exact Int.le_trans h (by decide)
theorem sl_great {X Y : Nat → Int} {n : Nat} (hok : ∀ i, i < n → POk (X i) (Y i)) : (sl 1099511627776 n X Y n).length ≤ 2 := by
  by_cases h : n = 0
  · subst h; simp [sl]
  · rw [sl_some h]
    by_cases h2 : n < 2
    · rw [kp_few h2]; simp
    · obtain ⟨f, rfl⟩ : ∃ f, n = f + 1 := ⟨n - 1, by omega⟩
      rw [kp_one h2 (gD_le (by decide) _ (fun i a b => dI_le hok (by omega) (by omega)))]
      simp
end Go.Proofs.Ytkknbapcbcialaa
