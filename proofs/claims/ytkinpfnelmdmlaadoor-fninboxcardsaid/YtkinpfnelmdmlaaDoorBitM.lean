/-
  The bits of two numbers mixed, and apart again: as sums.
-/
import Derived.Test.YtkinpfnelmdmlaaDoorGeo
namespace Go.Proofs.YtkinpfnelmdmlaaDoor
open Go.RowKit

/-- Every second bit: the sum. -/
def spr : Nat → Nat → Nat
  | 0, _ => 0
  | k + 1, x => spr k x + x / 2 ^ k % 2 * 4 ^ k
/-- The bits at even places, moved together: the sum. -/
def gth : Nat → Nat → Nat
  | 0, _ => 0
  | k + 1, x => gth k x + x / 4 ^ k % 2 * 2 ^ k
theorem spr_lt (k x : Nat) : spr k x < 4 ^ k := by
  induction k with
  | zero => simp [spr]
  | succ k ih =>
    have h : x / 2 ^ k % 2 * 4 ^ k ≤ 1 * 4 ^ k := Nat.mul_le_mul_right _ (by omega)
    simp only [spr, Nat.pow_succ]
    omega
theorem gth_lt (k x : Nat) : gth k x < 2 ^ k := by
  induction k with
  | zero => simp [gth]
  | succ k ih =>
    have h : x / 4 ^ k % 2 * 2 ^ k ≤ 1 * 2 ^ k := Nat.mul_le_mul_right _ (by omega)
    simp only [gth, Nat.pow_succ]
    omega
theorem spr_four (j x : Nat) : spr (j + 4) x = spr j x + spr 4 (x / 2 ^ j % 16) * 4 ^ j := by
  have e1 : x / 2 ^ (j + 1) = x / 2 ^ j / 2 := by rw [Nat.pow_succ, Nat.div_div_eq_div_mul]
  have e2 : x / 2 ^ (j + 2) = x / 2 ^ j / 4 := by rw [Nat.pow_add, Nat.div_div_eq_div_mul]
  have e3 : x / 2 ^ (j + 3) = x / 2 ^ j / 8 := by rw [Nat.pow_add, Nat.div_div_eq_div_mul]
  simp only [spr, e1, e2, e3]
  generalize x / 2 ^ j = y
  have q1 : 4 ^ (j + 1) = 4 * 4 ^ j := by rw [Nat.pow_succ, Nat.mul_comm]
  have q2 : 4 ^ (j + 2) = 16 * 4 ^ j := by rw [Nat.pow_add, Nat.mul_comm]
  have q3 : 4 ^ (j + 3) = 64 * 4 ^ j := by rw [Nat.pow_add, Nat.mul_comm]
  rw [q1, q2, q3]
  have r0 : y % 16 / 2 ^ 0 % 2 = y % 2 := by omega
  have r1 : y % 16 / 2 ^ 1 % 2 = y / 2 % 2 := by omega
  have r2 : y % 16 / 2 ^ 2 % 2 = y / 4 % 2 := by omega
  have r3 : y % 16 / 2 ^ 3 % 2 = y / 8 % 2 := by omega
  rw [r0, r1, r2, r3]
  generalize 4 ^ j = q
  simp only [Nat.add_mul, Nat.zero_add, Nat.mul_assoc, Nat.reducePow, Nat.one_mul, Nat.add_assoc]
theorem gth_two (j x : Nat) : gth (j + 2) x = gth j x + (x / 4 ^ j % 8 % 2 + x / 4 ^ j % 8 / 4 * 2) * 2 ^ j := by
  have e1 : x / 4 ^ (j + 1) = x / 4 ^ j / 4 := by rw [Nat.pow_succ, Nat.div_div_eq_div_mul]
  simp only [gth, e1]
  generalize x / 4 ^ j = y
  have q1 : 2 ^ (j + 1) = 2 * 2 ^ j := by rw [Nat.pow_succ, Nat.mul_comm]
  rw [q1]
  have r0 : y % 8 % 2 = y % 2 := by omega
  have r1 : y % 8 / 4 = y / 4 % 2 := by omega
  rw [r0, r1]
  generalize 2 ^ j = q
  simp only [Nat.add_mul, Nat.mul_assoc, Nat.add_assoc]
theorem spr_top (x : Nat) (h : x < 2 ^ 25) : spr 28 x = spr 25 x := by
  have e1 : x / 2 ^ 25 = 0 := Nat.div_eq_of_lt h
  have e2 : x / 2 ^ 26 = 0 := Nat.div_eq_of_lt (by omega)
  have e3 : x / 2 ^ 27 = 0 := Nat.div_eq_of_lt (by omega)
  show ((spr 25 x + x / 2 ^ 25 % 2 * 4 ^ 25) + x / 2 ^ 26 % 2 * 4 ^ 26) + x / 2 ^ 27 % 2 * 4 ^ 27 = _
  rw [e1, e2, e3]
  omega
theorem gth_top (x : Nat) (h : x < 2 ^ 50) : gth 26 x = gth 25 x := by
  have e1 : x / 4 ^ 25 = 0 := Nat.div_eq_of_lt (by omega)
  show gth 25 x + x / 4 ^ 25 % 2 * 2 ^ 25 = _
  rw [e1]
  omega
theorem gth_low (k x : Nat) : gth (k + 1) x = x % 2 + 2 * gth k (x / 4) := by
  induction k with
  | zero => simp [gth]
  | succ k ih =>
    show gth (k + 1) x + x / 4 ^ (k + 1) % 2 * 2 ^ (k + 1) = _
    rw [ih]
    simp only [gth]
    have e1 : x / 4 ^ (k + 1) = x / 4 / 4 ^ k := by rw [Nat.pow_succ, Nat.mul_comm, Nat.div_div_eq_div_mul]
    rw [e1, Nat.pow_succ, Nat.mul_add, Nat.mul_comm (2 ^ k) 2, Nat.mul_left_comm, Nat.add_assoc]
theorem gth_full (m : Nat) : ∀ k c, m ≤ k → gth k (4 ^ m * c + (4 ^ m - 1)) = gth k (4 ^ m * c) + (2 ^ m - 1) := by
  induction m with
  | zero => intro k c _; simp
  | succ m ih =>
    intro k c hk
    obtain ⟨k, rfl⟩ : ∃ k', k = k' + 1 := ⟨k - 1, by omega⟩
    have p4 : 0 < 4 ^ m := Nat.pow_pos (by omega)
    have p2 : 0 < 2 ^ m := Nat.pow_pos (by omega)
    have h := ih k c (by omega)
    have e1 : 4 ^ (m + 1) * c = 4 * (4 ^ m * c) := by rw [Nat.pow_succ, Nat.mul_comm (4 ^ m) 4, Nat.mul_assoc]
    have e2 : 4 ^ (m + 1) = 4 * 4 ^ m := by rw [Nat.pow_succ, Nat.mul_comm]
    have e3 : 2 ^ (m + 1) = 2 * 2 ^ m := by rw [Nat.pow_succ, Nat.mul_comm]
    rw [e1, e2, e3, gth_low, gth_low k (4 * (4 ^ m * c))]
    generalize 4 ^ m * c = A at h ⊢
    have f1 : (4 * A + (4 * 4 ^ m - 1)) / 4 = A + (4 ^ m - 1) := by omega
    have f2 : 4 * A / 4 = A := by omega
    rw [f1, f2, h]
    omega
theorem gth_half (m : Nat) : ∀ k c, m ≤ k → gth k ((4 ^ m * c + (4 ^ m - 1)) / 2) = gth k (4 ^ m * c / 2) + (2 ^ m - 1) := by
  induction m with
  | zero => intro k c _; simp
  | succ m ih =>
    intro k c hk
    obtain ⟨k, rfl⟩ : ∃ k', k = k' + 1 := ⟨k - 1, by omega⟩
    have p4 : 0 < 4 ^ m := Nat.pow_pos (by omega)
    have p2 : 0 < 2 ^ m := Nat.pow_pos (by omega)
    have h := ih k c (by omega)
    have e1 : 4 ^ (m + 1) * c = 4 * (4 ^ m * c) := by rw [Nat.pow_succ, Nat.mul_comm (4 ^ m) 4, Nat.mul_assoc]
    have e2 : 4 ^ (m + 1) = 4 * 4 ^ m := by rw [Nat.pow_succ, Nat.mul_comm]
    have e3 : 2 ^ (m + 1) = 2 * 2 ^ m := by rw [Nat.pow_succ, Nat.mul_comm]
    rw [e1, e2, e3, gth_low, gth_low k (4 * (4 ^ m * c) / 2)]
    generalize 4 ^ m * c = A at h ⊢
    have f1 : (4 * A + (4 * 4 ^ m - 1)) / 2 / 4 = (A + (4 ^ m - 1)) / 2 := by omega
    have f2 : 4 * A / 2 / 4 = A / 2 := by omega
    rw [f1, f2, h]
    omega

end Go.Proofs.YtkinpfnelmdmlaaDoor
