/-
  The place of a stretch that is nearest to a point: contracts of the model's and of the program's, for points that can be.
-/
import Derived.Test.YtkknbapcbcialaaPartC
import Derived.Test.YtkknbapcbcialaaTurnC
namespace Go.Proofs.Ytkknbapcbcialaa
open Go.RowKit

theorem share_in {n p d : Int} (p0 : 0 ≤ p) (p1 : p ≤ d) (d0 : 0 < d) : (0 ≤ n → 0 ≤ shareOf n p d ∧ shareOf n p d ≤ n) ∧ (n ≤ 0 → n ≤ shareOf n p d ∧ shareOf n p d ≤ 0) := by
  unfold shareOf
  have e : n * d / d = n := Int.mul_ediv_cancel _ (by omega)
  have z : (0 : Int) / d = 0 := Int.zero_ediv _
  refine ⟨fun h => ⟨Int.ediv_nonneg (Int.mul_nonneg h p0) (by omega), ?_⟩, fun h => ⟨?_, ?_⟩⟩
  · have := Int.ediv_le_ediv d0 (Int.mul_le_mul_of_nonneg_left p1 h); omega
  · have := Int.ediv_le_ediv d0 (Int.mul_le_mul_of_nonpos_left h p1); omega
  · have := Int.ediv_le_ediv d0 (Int.mul_nonpos_of_nonpos_of_nonneg h p0); omega

/-- How far along. -/
def uvOf (x0 y0 x1 y1 x2 y2 : Int) : Int := (x1 - x0) * (x2 - x0) + (y1 - y0) * (y2 - y0)
def footX (x0 y0 x1 y1 x2 y2 : Int) : Int := if uvOf x0 y0 x1 y1 x2 y2 ≤ 0 then x0 else if dsq x0 y0 x1 y1 ≤ uvOf x0 y0 x1 y1 x2 y2 then x1 else x0 + shareOf (x1 - x0) (uvOf x0 y0 x1 y1 x2 y2) (dsq x0 y0 x1 y1)
def footY (x0 y0 x1 y1 x2 y2 : Int) : Int := if uvOf x0 y0 x1 y1 x2 y2 ≤ 0 then y0 else if dsq x0 y0 x1 y1 ≤ uvOf x0 y0 x1 y1 x2 y2 then y1 else y0 + shareOf (y1 - y0) (uvOf x0 y0 x1 y1 x2 y2) (dsq x0 y0 x1 y1)
theorem foot_ok {x0 y0 x1 y1 x2 y2 : Int} (a : POk x0 y0) (b : POk x1 y1) : POk (footX x0 y0 x1 y1 x2 y2) (footY x0 y0 x1 y1 x2 y2) := by
  unfold footX footY
  generalize uvOf x0 y0 x1 y1 x2 y2 = uv
  generalize dsq x0 y0 x1 y1 = uu
  split
  · exact a
  · split
    · exact b
    · obtain ⟨s1, s2⟩ := share_in (n := x1 - x0) (p := uv) (d := uu) (by omega) (by omega) (by omega)
      obtain ⟨t1, t2⟩ := share_in (n := y1 - y0) (p := uv) (d := uu) (by omega) (by omega) (by omega)
      obtain ⟨a0, a1, a2, a3⟩ := a
      obtain ⟨b0, b1, b2, b3⟩ := b
      constructor <;> omega

theorem uv_pos {x0 y0 x1 y1 x2 y2 : Int} (h : 0 < uvOf x0 y0 x1 y1 x2 y2) : 0 < dsq x0 y0 x1 y1 := by
  unfold dsq
  unfold uvOf at h
  have h1 := sq_nonneg (x1 - x0)
  have h2 := sq_nonneg (y1 - y0)
  rcases Int.lt_or_le 0 ((x1 - x0) * (x1 - x0) + (y1 - y0) * (y1 - y0)) with k | k
  · exact k
  · have e1 : (x1 - x0) * (x1 - x0) = 0 := by omega
    have e2 : (y1 - y0) * (y1 - y0) = 0 := by omega
    have e1 : x1 - x0 = 0 := (Int.mul_eq_zero.1 e1).elim id id
    have e2 : y1 - y0 = 0 := (Int.mul_eq_zero.1 e2).elim id id
    rw [e1, e2] at h
    omega
theorem uv_bd {x0 y0 x1 y1 x2 y2 : Int} (a : POk x0 y0) (b : POk x1 y1) (c : POk x2 y2) : -400000000000000 ≤ (x1 - x0) * (x2 - x0) ∧ (x1 - x0) * (x2 - x0) ≤ 400000000000000 ∧ -400000000000000 ≤ (y1 - y0) * (y2 - y0) ∧ (y1 - y0) * (y2 - y0) ≤ 400000000000000 := by
  obtain ⟨a0, a1, a2, a3⟩ := a
  obtain ⟨b0, b1, b2, b3⟩ := b
  obtain ⟨c0, c1, c2, c3⟩ := c
  obtain ⟨p0, p1⟩ := mul_bd7 (u := x1 - x0) (v := x2 - x0) (by omega) (by omega) (by omega) (by omega)
  obtain ⟨q0, q1⟩ := mul_bd7 (u := y1 - y0) (v := y2 - y0) (by omega) (by omega) (by omega) (by omega)
  exact ⟨p0, p1, q0, q1⟩

theorem bel_s3 {w a : World} (h : Bel w a) (o : Nat) (u : Value) : Bel w (a.setCell ⟨w.heap.size + 1 + 1 + 1, o, none⟩ u) := bel_set h (by show w.heap.size ≤ w.heap.size + 1 + 1 + 1; omega) u
theorem bel_b3 {t : TypeId} {w a : World} {x0 y0 x1 y1 x2 y2 : Int} (h : Bel (bx3 t w x0 y0 x1 y1 x2 y2) a) (o : Nat) (u : Value) : Bel (bx3 t w x0 y0 x1 y1 x2 y2) (a.setCell ⟨w.heap.size + 1 + 1 + 1, o, none⟩ u) := bel_set h (by show (bx3 t w x0 y0 x1 y1 x2 y2).heap.size ≤ w.heap.size + 1 + 1 + 1; simp [bx3]) u
theorem ret_pt {a b c d : Int} (h : a = b) (k : c = d) : Ending.returned (pt a c) = .returned (pt b d) := by rw [h, k]

end Go.Proofs.Ytkknbapcbcialaa
