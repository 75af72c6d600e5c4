/-
  Contract of the model's share that is rounded down.
-/
import Derived.Test.YtkknbapcbcialaaShareC
namespace Go.Proofs.Ytkknbapcbcialaa
open Go.RowKit

/-- What the model knows behind the bits from m on. -/
structure PInv (X n d : Int) (m : Nat) (q r : Int) : Prop where
  q0 : 0 ≤ q
  r0 : 0 ≤ r
  r1 : r < d
  e : q * d + r = X / 2 ^ m * n

theorem quot_le {X n d q r S : Int} (X0 : 0 ≤ X) (X1 : X ≤ 20000000) (n0 : 0 ≤ n) (n1 : n ≤ d) (d0 : 0 < d) (r0 : 0 ≤ r) (hS : S ≤ X) (e : q * d + r = S * n) : q ≤ 20000000 := by
  have h1 : S * n ≤ X * n := Int.mul_le_mul_of_nonneg_right hS n0
  have h2 : X * n ≤ X * d := Int.mul_le_mul_of_nonneg_left n1 X0
  have h3 : q * d ≤ 20000000 * d := by
    have : X * d ≤ 20000000 * d := Int.mul_le_mul_of_nonneg_right X1 (by omega)
    omega
  exact Int.le_of_mul_le_mul_right h3 d0
theorem div_pow_le {X : Int} (X0 : 0 ≤ X) (m : Nat) : 0 ≤ X / 2 ^ m ∧ X / 2 ^ m ≤ X :=
  ⟨Int.ediv_nonneg X0 (Int.le_of_lt (Int.pow_pos (by decide))), Int.ediv_le_self _ X0⟩
theorem div_pow_step (X : Int) (m : Nat) (h : 0 < m) : X / 2 ^ (m - 1) = 2 * (X / 2 ^ m) + X / 2 ^ (m - 1) % 2 := by
  obtain ⟨j, rfl⟩ : ∃ j, m = j + 1 := ⟨m - 1, by omega⟩
  rw [show j + 1 - 1 = j from rfl, Int.pow_succ, ← Int.ediv_ediv_of_nonneg (Int.le_of_lt (Int.pow_pos (by decide)))]
  omega
theorem bit_i64 {x : Int} (h0 : 0 ≤ x) (h1 : x ≤ 20000000) : bits .and .i64 x 1 = x % 2 := by
  obtain ⟨a, rfl⟩ := Int.eq_ofNat_of_zero_le h0
  have e1 : (BitVec.ofInt 64 (a : Int)).toNat = a := by
    rw [BitVec.ofInt_natCast, BitVec.toNat_ofNat]; exact Nat.mod_eq_of_lt (by omega)
  have e2 : (BitVec.ofInt 64 1).toNat = 2 ^ 1 - 1 := by decide
  show IntKind.i64.wrap ((BitVec.ofInt 64 (a : Int) &&& BitVec.ofInt 64 1).toNat : Nat) = _
  rw [BitVec.toNat_and, e1, e2, Nat.and_two_pow_sub_one_eq_mod, IntKind.wrap_i64]
  omega
theorem pinv_start {X n d : Int} (X0 : 0 ≤ X) (X1 : X ≤ 20000000) (d0 : 0 < d) : PInv X n d 41 0 0 :=
  by
  have h41 : X < 2 ^ 41 := by rw [show (2 : Int) ^ 41 = 2199023255552 by decide]; omega
  have e : X / 2 ^ 41 = 0 := Int.ediv_eq_zero_of_lt X0 h41
  exact ⟨by omega, by omega, d0, by rw [e]; simp⟩
theorem pstep {q d r n Z t V : Int} (e : q * d + r = Z * n) (h : V = 2 * Z + t) : 2 * q * d + (2 * r + t * n) = V * n := by rw [h]; grind
theorem inner_e {q d r S : Int} (e : q * d + r = S) : (q + 1) * d + (r - d) = S := by grind
theorem pinv_end {X n d q r : Int} (d0 : 0 < d) (i : PInv X n d 0 q r) : X * n / d = q ∧ X * n % d = r := by
  have e : X * n = r + d * q := by have := i.e; simp at this; rw [← this]; grind
  rw [e]
  exact ⟨by rw [Int.add_mul_ediv_left _ _ (by omega), Int.ediv_eq_zero_of_lt i.r0 i.r1]; omega, by rw [Int.add_mul_emod_self_left]; exact Int.emod_eq_of_lt i.r0 i.r1⟩

end Go.Proofs.Ytkknbapcbcialaa
