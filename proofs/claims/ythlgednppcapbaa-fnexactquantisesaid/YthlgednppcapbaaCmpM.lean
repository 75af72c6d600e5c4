/-
  A row without repeats beside each other: the list, and how far it has been built.
-/
import Derived.Test.YthlgednppcapbaaMem
namespace Go.Proofs.Ythlgednppcapbaa
open Go.RowKit

/-- The k-th point stays. -/
def Kep (X Y : Nat → Int) (k : Nat) : Prop := k = 0 ∨ ¬ (X k = X (k - 1) ∧ Y k = Y (k - 1))
instance (X Y : Nat → Int) (k : Nat) : Decidable (Kep X Y k) := inferInstanceAs (Decidable (_ ∨ _))
def cpL (X Y : Nat → Int) : Nat → List PtD
  | 0 => []
  | k + 1 => if Kep X Y k then cpL X Y k ++ [⟨X k, Y k⟩] else cpL X Y k
theorem cpL_yes {X Y : Nat → Int} {k : Nat} (h : Kep X Y k) : cpL X Y (k + 1) = cpL X Y k ++ [⟨X k, Y k⟩] := if_pos h
theorem cpL_no {X Y : Nat → Int} {k : Nat} (h : ¬ Kep X Y k) : cpL X Y (k + 1) = cpL X Y k := if_neg h
theorem cpL_len (X Y : Nat → Int) : ∀ k, (cpL X Y k).length ≤ k
  | 0 => Nat.le_refl _
  | k + 1 => by
    have := cpL_len X Y k
    by_cases h : Kep X Y k
    · rw [cpL_yes h, List.length_append]; simp; exact this
    · rw [cpL_no h]; omega
theorem cpL_pos (X Y : Nat → Int) : ∀ k, 0 < (cpL X Y (k + 1)).length
  | 0 => by rw [cpL_yes (.inl rfl)]; simp
  | k + 1 => by
    have := cpL_pos X Y k
    by_cases h : Kep X Y (k + 1)
    · rw [cpL_yes h]; simp
    · rw [cpL_no h]; exact this
/-- The last one that stays is as the last one. -/
theorem cpL_last (X Y : Nat → Int) : ∀ k, ∃ l, cpL X Y (k + 1) = l ++ [⟨X k, Y k⟩]
  | 0 => ⟨[], by rw [cpL_yes (.inl rfl)]; rfl⟩
  | k + 1 => by
    by_cases h : Kep X Y (k + 1)
    · exact ⟨_, cpL_yes h⟩
    · obtain ⟨l, e⟩ := cpL_last X Y k
      refine ⟨l, ?_⟩
      rw [cpL_no h, e]
      have h' : X (k + 1) = X k ∧ Y (k + 1) = Y k := by
        rcases Classical.em (X (k + 1) = X k ∧ Y (k + 1) = Y k) with hh | hh
        · exact hh
        · exact absurd (.inr hh) h
      rw [h'.1, h'.2]
theorem cpL_all {X Y : Nat → Int} : ∀ k, (∀ j, j < k → Kep X Y j) → cpL X Y k = (List.range k).map fun i => ⟨X i, Y i⟩
  | 0, _ => rfl
  | k + 1, h => by rw [cpL_yes (h k (by omega)), cpL_all k (fun j hj => h j (by omega)), List.range_succ, List.map_append]; rfl
theorem cpL_in {X Y : Nat → Int} {P : PtD → Prop} : ∀ k, (∀ j, j < k → P ⟨X j, Y j⟩) → ∀ d ∈ cpL X Y k, P d
  | 0, _, d, hd => nomatch hd
  | k + 1, h, d, hd => by
    have ih := cpL_in (P := P) k (fun j hj => h j (by omega))
    by_cases hk : Kep X Y k
    · rw [cpL_yes hk] at hd
      rcases List.mem_append.1 hd with hd | hd
      · exact ih d hd
      · rw [List.mem_singleton.1 hd]; exact h k (by omega)
    · rw [cpL_no hk] at hd; exact ih d hd
theorem cpL_congr {X Y X' Y' : Nat → Int} : ∀ k, (∀ j, j < k → X j = X' j ∧ Y j = Y' j) → cpL X Y k = cpL X' Y' k
  | 0, _ => rfl
  | k + 1, h => by
    have ih := cpL_congr k (fun j hj => h j (by omega))
    have hk : Kep X Y k ↔ Kep X' Y' k := by
      unfold Kep
      rcases Nat.eq_zero_or_pos k with z | z
      · simp [z]
      · rw [(h k (by omega)).1, (h k (by omega)).2, (h (k - 1) (by omega)).1, (h (k - 1) (by omega)).2]
    by_cases e : Kep X Y k
    · rw [cpL_yes e, cpL_yes (hk.1 e), ih, (h k (by omega)).1, (h k (by omega)).2]
    · rw [cpL_no e, cpL_no (fun hh => e (hk.2 hh)), ih]
end Go.Proofs.Ythlgednppcapbaa
