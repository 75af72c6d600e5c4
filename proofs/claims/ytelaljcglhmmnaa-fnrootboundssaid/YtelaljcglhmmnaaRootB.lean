/-
  Plain facts on roots and distances, as the law wants them.
-/
import Derived.Test.YtelaljcglhmmnaaDistC
namespace Go.Proofs.Ytelaljcglhmmnaa
open Go.RowKit

theorem sq_le {a b : Int} (h0 : 0 ≤ a) (h : a ≤ b) : a * a ≤ b * b := Int.mul_le_mul h h h0 (by omega)
theorem sq_lt_of {a b : Int} (hb : 0 ≤ b) (h : a * a < b * b) : a < b := by
  rcases Int.lt_or_le a b with k | k
  · exact k
  · have := sq_le hb k; omega
theorem sq_le_of {a b : Int} (hb : 0 ≤ b) (h : a * a ≤ b * b) : a ≤ b := by
  rcases Int.lt_or_le b a with k | k
  · have h1 : (b + 1) * (b + 1) ≤ a * a := sq_le (by omega) (by omega)
    have h2 : (b + 1) * (b + 1) = b * b + 2 * b + 1 := by grind
    omega
  · exact k
theorem root_facts {n : Int} (h0 : 0 ≤ n) (h1 : n ≤ 9223372036854775807) : ∃ r : Int, rootOf n = r ∧ 0 ≤ r ∧ r ≤ 3037000499 ∧ 0 ≤ r * r ∧ r * r ≤ n ∧ n < (r + 1) * (r + 1) ∧ (r < 3037000499 → (r + 1) * (r + 1) ≤ 9223372030926249001) := by
  rcases rootOf_spec n with ⟨h, _⟩ | ⟨_, r0, r1, r2⟩
  · omega
  · refine ⟨rootOf n, rfl, r0, ?_, sq_nonneg _, r1, r2, ?_⟩
    · have h : rootOf n < 3037000499 + 1 := sq_lt_of (by decide) (by rw [high_sq]; omega)
      omega
    · intro h
      have := sq_le (a := rootOf n + 1) (b := 3037000499) (by omega) (by omega)
      omega
theorem root_nine : rootOf 9 = 3 := (rootOf_eq (n := 9) (r := 3) (.inr ⟨by decide, by decide, by decide, by decide⟩)).symm

theorem ab_sq (u : Int) : max u (-u) * max u (-u) = u * u := by
  rcases Int.lt_or_le u 0 with h | h
  · rw [show max u (-u) = -u by omega, Int.neg_mul_neg]
  · rw [show max u (-u) = u by omega]
theorem dist_facts {x0 y0 x1 y1 : Int} (a : POk x0 y0) (b : POk x1 y1) :
    dOf x1 y1 x0 y0 = dOf x0 y0 x1 y1 ∧ max (x0 - x1) (-(x0 - x1)) ≤ dOf x0 y0 x1 y1 ∧ max (y0 - y1) (-(y0 - y1)) ≤ dOf x0 y0 x1 y1 ∧ dOf x0 y0 x1 y1 ≤ max (x0 - x1) (-(x0 - x1)) + max (y0 - y1) (-(y0 - y1)) ∧ (dOf x0 y0 x1 y1 = 0 → x0 = x1 ∧ y0 = y1) := by
  have e : dsq x0 y0 x1 y1 = max (x0 - x1) (-(x0 - x1)) * max (x0 - x1) (-(x0 - x1)) + max (y0 - y1) (-(y0 - y1)) * max (y0 - y1) (-(y0 - y1)) := by
    rw [ab_sq, ab_sq]; unfold dsq; grind
  have e' : dsq x1 y1 x0 y0 = dsq x0 y0 x1 y1 := by unfold dsq; grind
  obtain ⟨d0, d1⟩ := dsq_bd a b
  unfold dOf
  rw [e']
  have p0 : 0 ≤ max (x0 - x1) (-(x0 - x1)) := by omega
  have q0 : 0 ≤ max (y0 - y1) (-(y0 - y1)) := by omega
  have ep : max (x0 - x1) (-(x0 - x1)) = 0 → x0 = x1 := fun h => by omega
  have eq : max (y0 - y1) (-(y0 - y1)) = 0 → y0 = y1 := fun h => by omega
  generalize max (x0 - x1) (-(x0 - x1)) = p at *
  generalize max (y0 - y1) (-(y0 - y1)) = q at *
  generalize dsq x0 y0 x1 y1 = D at *
  rcases rootOf_spec (4 * D) with ⟨h, _⟩ | ⟨_, r0, r1, r2⟩
  · omega
  generalize rootOf (4 * D) = R at *
  have pp := sq_nonneg p
  have qq := sq_nonneg q
  have pq : 0 ≤ p * q := Int.mul_nonneg p0 q0
  have f1 : (2 * p) * (2 * p) = 4 * (p * p) := by grind
  have f2 : (2 * q) * (2 * q) = 4 * (q * q) := by grind
  have f3 : (2 * (p + q)) * (2 * (p + q)) = 4 * (p * p) + 4 * (q * q) + 8 * (p * q) := by grind
  have g1 : 2 * p < R + 1 := sq_lt_of (by omega) (by omega)
  have g2 : 2 * q < R + 1 := sq_lt_of (by omega) (by omega)
  have g3 : R ≤ 2 * (p + q) := sq_le_of (by omega) (by omega)
  refine ⟨rfl, by omega, by omega, by omega, fun h => ⟨ep (by omega), eq (by omega)⟩⟩
end Go.Proofs.Ytelaljcglhmmnaa
