/-
  The plain mathematics of a share that is rounded down: words of 64 bits, a product in two of them, a division bit by bit. No condition beyond what each lemma names.
-/
import Derived.Test.YtkknbapcbcialaaDistC
namespace Go.Proofs.Ytkknbapcbcialaa
open Go.RowKit

theorem and32 {x : Int} (h0 : 0 ≤ x) (h1 : x < 18446744073709551616) : bits .and .u64 x 4294967295 = x % 4294967296 := by
  rw [u64_and x 4294967295 h0 h1 (by decide) (by decide)]
  have := Nat.and_two_pow_sub_one_eq_mod x.toNat 32
  have e : x.toNat &&& 4294967295 = x.toNat % 4294967296 := this
  rw [show (4294967295 : Int).toNat = 4294967295 from rfl, e]
  omega
theorem or32 {x y : Int} (h0 : 0 ≤ x) (h1 : x < 18446744073709551616) (hx : x % 4294967296 = 0) (y0 : 0 ≤ y) (y1 : y < 4294967296) : bits .or .u64 x y = x + y := by
  rw [u64_or x y h0 h1 y0 (by omega), nat_join 32 x.toNat y.toNat (by show x.toNat % 4294967296 = 0; omega) (by show y.toNat < 4294967296; omega)]
  omega
theorem or1 {x y : Int} (h0 : 0 ≤ x) (h1 : x < 18446744073709551616) (hx : x % 2 = 0) (y0 : 0 ≤ y) (y1 : y ≤ 1) : bits .or .u64 x y = x + y := by
  rw [u64_or x y h0 h1 y0 (by omega), nat_join 1 x.toNat y.toNat (by show x.toNat % 2 = 0; omega) (by show y.toNat < 2; omega)]
  omega
theorem wrapU {x : Int} (h0 : 0 ≤ x) (h1 : x < 18446744073709551616) : IntKind.u64.wrap x = x := by
  rw [IntKind.wrap_u64]; omega

theorem mul_lt {a b A B : Int} (a0 : 0 ≤ a) (a1 : a ≤ A) (b0 : 0 ≤ b) (b1 : b ≤ B) : 0 ≤ a * b ∧ a * b ≤ A * B :=
  ⟨Int.mul_nonneg a0 b0, Int.mul_le_mul a1 b1 b0 (by omega)⟩

/-- What one round of the division knows. -/
structure Inv (N d : Int) (M P h l : Int) : Prop where
  ex : ∃ R q : Int, 0 ≤ h ∧ h < d ∧ 0 ≤ R ∧ R < M ∧ 0 ≤ q ∧ q < P ∧ l = R * P + q ∧ N = (q * d + h) * M + R

theorem inv_start {N d h l : Int} (h0 : 0 ≤ h) (h1 : h < d) (l0 : 0 ≤ l) (l1 : l < 18446744073709551616) (e : N = h * 18446744073709551616 + l) : Inv N d 18446744073709551616 1 h l :=
  ⟨l, 0, h0, h1, l0, l1, by decide, by decide, by omega, by omega⟩

theorem inv_l {N d M P h l : Int} (i : Inv N d M P h l) (hMP : M * P = 18446744073709551616) (hP : 0 < P) : 0 ≤ l ∧ l < 18446744073709551616 := by
  obtain ⟨R, q, h0, h1, r0, r1, q0, q1, e, _⟩ := i.ex
  have a1 : 0 ≤ R * P := Int.mul_nonneg r0 (by omega)
  have a2 : (R + 1) * P ≤ M * P := Int.mul_le_mul_of_nonneg_right (by omega) (by omega)
  have a3 : (R + 1) * P = R * P + P := by grind
  omega
theorem inv_h {N d M P h l : Int} (i : Inv N d M P h l) : 0 ≤ h ∧ h < d := by
  obtain ⟨R, q, h0, h1, _⟩ := i.ex
  exact ⟨h0, h1⟩

/-- One bit more: what the program reckons. -/
theorem inv_step {N d M P h l : Int} (i : Inv N d (2 * M) P h l) (hMP : 2 * M * P = 18446744073709551616) (_hM : 0 < M) (hP : 0 < P) (_hd : 0 < d) :
    0 ≤ l / 9223372036854775808 ∧ l / 9223372036854775808 ≤ 1 ∧
    (h * 2 + l / 9223372036854775808 < d → Inv N d M (2 * P) (h * 2 + l / 9223372036854775808) (l * 2 % 18446744073709551616)) ∧
    (d ≤ h * 2 + l / 9223372036854775808 → Inv N d M (2 * P) (h * 2 + l / 9223372036854775808 - d) (l * 2 % 18446744073709551616 + 1)) := by
  obtain ⟨R, q, h0, h1, r0, r1, q0, q1, e, eN⟩ := i.ex
  have mp : M * P = 9223372036854775808 := by grind
  have hl := inv_l i hMP hP
  by_cases hR : R < M
  · have a1 : (R + 1) * P ≤ M * P := Int.mul_le_mul_of_nonneg_right (by omega) (by omega)
    have a3 : (R + 1) * P = R * P + P := by grind
    have ht : l / 9223372036854775808 = 0 := by omega
    have hl2 : l * 2 % 18446744073709551616 = l * 2 := by omega
    rw [ht, hl2]
    refine ⟨by decide, by decide, fun hh => ⟨R, 2 * q, by omega, hh, r0, hR, by omega, by omega, by rw [e]; grind, by rw [eN]; grind⟩, fun hh => ⟨R, 2 * q + 1, by omega, by omega, r0, hR, by omega, by omega, by rw [e]; grind, by rw [eN]; grind⟩⟩
  · have a1 : M * P ≤ R * P := Int.mul_le_mul_of_nonneg_right (by omega) (by omega)
    have ht : l / 9223372036854775808 = 1 := by omega
    have hl2 : l * 2 % 18446744073709551616 = l * 2 - 18446744073709551616 := by omega
    rw [ht, hl2]
    refine ⟨by decide, by decide, fun hh => ⟨R - M, 2 * q, by omega, hh, by omega, by omega, by omega, by omega, by rw [e]; grind, by rw [eN]; grind⟩, fun hh => ⟨R - M, 2 * q + 1, by omega, by omega, by omega, by omega, by omega, by omega, by rw [e]; grind, by rw [eN]; grind⟩⟩

theorem inv_end {N d h l P : Int} (i : Inv N d 1 P h l) (_hP : 0 < P) (hd : 0 < d) : l = N / d ∧ h = N % d := by
  obtain ⟨R, q, h0, h1, r0, r1, q0, q1, e, eN⟩ := i.ex
  have hR : R = 0 := by omega
  subst hR
  have el : l = q := by omega
  have eN' : N = h + d * q := by rw [eN]; grind
  rw [el, eN']
  exact ⟨by rw [Int.add_mul_ediv_left _ _ (by omega)]; rw [Int.ediv_eq_zero_of_lt h0 h1]; omega, by rw [Int.add_mul_emod_self_left]; exact (Int.emod_eq_of_lt h0 h1).symm⟩

/-- A quotient rounded down, of a number below 0. -/
theorem neg_div {m d : Int} (_hm : 0 ≤ m) (hd : 0 < d) : (-m) / d = if m % d > 0 then -(m / d + 1) else -(m / d) := by
  have e : m = d * (m / d) + m % d := (Int.mul_ediv_add_emod m d).symm
  have r0 := Int.emod_nonneg m (show d ≠ 0 by omega)
  have r1 := Int.emod_lt_of_pos m hd
  generalize m / d = q at *
  generalize m % d = r at *
  split
  · have e2 : -m = (d - r) + d * (-(q + 1)) := by grind
    rw [e2, Int.add_mul_ediv_left _ _ (by omega), Int.ediv_eq_zero_of_lt (by omega) (by omega)]; omega
  · have hr : r = 0 := by omega
    have e2 : -m = 0 + d * (-q) := by grind
    rw [e2, Int.add_mul_ediv_left _ _ (by omega)]; simp
end Go.Proofs.Ytkknbapcbcialaa
