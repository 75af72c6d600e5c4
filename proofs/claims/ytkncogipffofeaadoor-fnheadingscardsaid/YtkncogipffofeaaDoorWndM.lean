/-
  What winds have in common: back, by a quarter, three times as far.
-/
import Derived.Test.YtkncogipffofeaaDoorHeadC
namespace Go.Proofs.YtkncogipffofeaaDoor
open Go.RowKit

set_option maxHeartbeats 2000000 in
theorem wind_bd (dx dy : Int) : 0 ≤ wind dx dy ∧ wind dx dy ≤ 7 := by
  unfold wind; repeat' split
  all_goals omega
set_option maxHeartbeats 4000000 in
theorem wind_back {dx dy : Int} (h : dx ≠ 0 ∨ dy ≠ 0) : wind (-dx) (-dy) = (wind dx dy + 4) % 8 := by
  unfold wind ab; repeat' split
  all_goals omega
set_option maxHeartbeats 4000000 in
theorem wind_quarter {dx dy : Int} (h : dx ≠ 0 ∨ dy ≠ 0) : wind (-dy) dx = (wind dx dy + 2) % 8 := by
  unfold wind ab; repeat' split
  all_goals omega
set_option maxHeartbeats 4000000 in
theorem wind_three (dx dy : Int) : wind (3 * dx) (3 * dy) = wind dx dy := by
  unfold wind ab; repeat' split
  all_goals omega
theorem head_cases (x0 y0 x1 y1 : Int) : (headOf x0 y0 x1 y1 = -1 ∧ (pok x0 y0 = false ∨ pok x1 y1 = false ∨ (x0 = x1 ∧ y0 = y1))) ∨ (pok x0 y0 = true ∧ pok x1 y1 = true ∧ (x1 - x0 ≠ 0 ∨ y1 - y0 ≠ 0) ∧ headOf x0 y0 x1 y1 = wind (x1 - x0) (y1 - y0)) := by
  unfold headOf
  cases h0 : pok x0 y0
  · exact .inl ⟨rfl, .inl rfl⟩
  · cases h1 : pok x1 y1
    · exact .inl ⟨rfl, .inr (.inl rfl)⟩
    · by_cases hx : x0 = x1
      · by_cases hy : y0 = y1
        · exact .inl ⟨by simp [hx, hy], .inr (.inr ⟨hx, hy⟩)⟩
        · exact .inr ⟨rfl, rfl, .inr (by omega), by simp [hy]⟩
      · exact .inr ⟨rfl, rfl, .inl (by omega), by simp [hx]⟩
/-- All that the law asks of a wind that is one. -/
theorem head_all {x0 y0 x1 y1 : Int} (h0 : pok x0 y0 = true) (h1 : pok x1 y1 = true) (hd : x1 - x0 ≠ 0 ∨ y1 - y0 ≠ 0) :
    headOf x1 y1 x0 y0 = (wind (x1 - x0) (y1 - y0) + 4) % 8 ∧
    (headOf 0 0 (-(y1 - y0)) (x1 - x0) = (wind (x1 - x0) (y1 - y0) + 2) % 8 ∨ headOf 0 0 (-(y1 - y0)) (x1 - x0) = -1) ∧
    (headOf 1 2 (1 + 3 * (x1 - x0)) (2 + 3 * (y1 - y0)) = wind (x1 - x0) (y1 - y0) ∨ headOf 1 2 (1 + 3 * (x1 - x0)) (2 + 3 * (y1 - y0)) = -1) := by
  refine ⟨?_, ?_, ?_⟩
  · rcases head_cases x1 y1 x0 y0 with ⟨_, h | h | h⟩ | ⟨_, _, _, e⟩
    · rw [h1] at h; cases h
    · rw [h0] at h; cases h
    · omega
    · rw [e, show x0 - x1 = -(x1 - x0) by omega, show y0 - y1 = -(y1 - y0) by omega, wind_back hd]
  · rcases head_cases 0 0 (-(y1 - y0)) (x1 - x0) with ⟨e, _⟩ | ⟨_, _, _, e⟩
    · exact .inr e
    · exact .inl (by rw [e, Int.sub_zero, Int.sub_zero, wind_quarter hd])
  · rcases head_cases 1 2 (1 + 3 * (x1 - x0)) (2 + 3 * (y1 - y0)) with ⟨e, _⟩ | ⟨_, _, _, e⟩
    · exact .inr e
    · exact .inl (by rw [e, show 1 + 3 * (x1 - x0) - 1 = 3 * (x1 - x0) by omega, show 2 + 3 * (y1 - y0) - 2 = 3 * (y1 - y0) by omega, wind_three])
end Go.Proofs.YtkncogipffofeaaDoor
