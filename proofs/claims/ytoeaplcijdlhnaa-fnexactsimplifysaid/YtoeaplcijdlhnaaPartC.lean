/-
  Contract of the model's share that is rounded down.
-/
import Derived.Test.YtoeaplcijdlhnaaShareC
namespace Go.Proofs.Ytoeaplcijdlhnaa
open Go.RowKit

/-- What the model knows behind the bits from m on. -/
structure PInv (X n d : Int) (m : Nat) (q r : Int) : Prop where
  q0 : 0 ≤ q
  r0 : 0 ≤ r
  r1 : r < d
  e : q * d + r = X / 2 ^ m * n

theorem quot_le {X n d q r S : Int} (X0 : 0 ≤ X) (X1 : X ≤ 20000000) (n0 : 0 ≤ n) (n1 : n ≤ d) (d0 : 0 < d) (r0 : 0 ≤ r) (hS : S ≤ X) (e : q * d + r = S * n) : q ≤ 20000000 := by
  have h1 : S * n ≤ X * n := Int.mul_le_mul_of_nonneg_right hS n0
  have h2 : X * n ≤ X * d := Int.mul_le_mul_of_nonneg_left n1 X0
  have h3 : q * d ≤ 20000000 * d := by
    have : X * d ≤ 20000000 * d := Int.mul_le_mul_of_nonneg_right X1 (by omega)
    omega
  exact Int.le_of_mul_le_mul_right h3 d0
theorem div_pow_le {X : Int} (X0 : 0 ≤ X) (m : Nat) : 0 ≤ X / 2 ^ m ∧ X / 2 ^ m ≤ X :=
  ⟨Int.ediv_nonneg X0 (Int.le_of_lt (Int.pow_pos (by decide))), Int.ediv_le_self _ X0⟩
theorem div_pow_step (X : Int) (m : Nat) (h : 0 < m) : X / 2 ^ (m - 1) = 2 * (X / 2 ^ m) + X / 2 ^ (m - 1) % 2 := by
  obtain ⟨j, rfl⟩ : ∃ j, m = j + 1 := ⟨m - 1, by omega⟩
  rw [show j + 1 - 1 = j from rfl, Int.pow_succ, ← Int.ediv_ediv_of_nonneg (Int.le_of_lt (Int.pow_pos (by decide)))]
  omega
theorem bit_i64 {x : Int} (h0 : 0 ≤ x) (h1 : x ≤ 20000000) : bits .and .i64 x 1 = x % 2 := by
  obtain ⟨a, rfl⟩ := Int.eq_ofNat_of_zero_le h0
  have e1 : (BitVec.ofInt 64 (a : Int)).toNat = a := by
    rw [BitVec.ofInt_natCast, BitVec.toNat_ofNat]; exact Nat.mod_eq_of_lt (by omega)
  have e2 : (BitVec.ofInt 64 1).toNat = 2 ^ 1 - 1 := by decide
  show IntKind.i64.wrap ((BitVec.ofInt 64 (a : Int) &&& BitVec.ofInt 64 1).toNat : Nat) = _
  rw [BitVec.toNat_and, e1, e2, Nat.and_two_pow_sub_one_eq_mod, IntKind.wrap_i64]
  omega
theorem pinv_start {X n d : Int} (X0 : 0 ≤ X) (X1 : X ≤ 20000000) (d0 : 0 < d) : PInv X n d 41 0 0 :=
  by
  have h41 : X < 2 ^ 41 := by rw [show (2 : Int) ^ 41 = 2199023255552 by decide]; omega
  have e : X / 2 ^ 41 = 0 := Int.ediv_eq_zero_of_lt X0 h41
  exact ⟨by omega, by omega, d0, by rw [e]; simp⟩
theorem pstep {q d r n Z t V : Int} (e : q * d + r = Z * n) (h : V = 2 * Z + t) : 2 * q * d + (2 * r + t * n) = V * n := by rw [h]; grind
theorem inner_e {q d r S : Int} (e : q * d + r = S) : (q + 1) * d + (r - d) = S := by grind
theorem pinv_end {X n d q r : Int} (d0 : 0 < d) (i : PInv X n d 0 q r) : X * n / d = q ∧ X * n % d = r := by
  have e : X * n = r + d * q := by have := i.e; simp at this; rw [← this]; grind
  rw [e]
  exact ⟨by rw [Int.add_mul_ediv_left _ _ (by omega), Int.ediv_eq_zero_of_lt i.r0 i.r1]; omega, by rw [Int.add_mul_emod_self_left]; exact Int.emod_eq_of_lt i.r0 i.r1⟩

set_option maxHeartbeats 1000000 in
theorem part_pos (x n d : Int) (w : World) (x0 : 0 ≤ x) (x1 : x ≤ 20000000) (n0 : 0 ≤ n) (n1 : n ≤ d) (d0 : 0 < d) (d1 : d ≤ 800000000000000) :
    Calls Try.prog 64 #[.int .i64 x, .int .i64 n, .int .i64 d] w fun e w' => e = .returned (.int .i64 (x * n / d)) ∧ w' = w := by
  have X0 : 0 ≤ x := by omega
  have X1 : x ≤ 20000000 := by omega
  have hS := pinv_start (n := n) X0 X1 d0
  go_enter Try.func64, Try.ntmps64
  go_wp2
  go_loop [8, 9, 10] (fun tq tr tb => ∃ (m : Nat) (q r : Int), m ≤ 41 ∧ PInv (x) n d m q r ∧ tq = .int .i64 q ∧ tr = .int .i64 r ∧ tb = .int .i64 ((m : Int) - 1)) (fun _ _ b => (intOf b + 1).toNat)
  case atStart => exact ⟨41, 0, 0, by omega, hS, rfl, rfl, rfl⟩
  case round =>
    clear hS
    obtain ⟨m, q, r, hm, hI, rfl, rfl, rfl⟩ := hrel
    by_cases hlt : 0 < m
    · obtain ⟨q0, r0, r1, e⟩ := hI
      obtain ⟨v0, v1⟩ := div_pow_le X0 m
      obtain ⟨u0, u1⟩ := div_pow_le X0 (m - 1)
      have qb := quot_le X0 X1 n0 n1 d0 r0 v1 e
      have hst := div_pow_step (x) m hlt
      have hb := bit_i64 u0 (by omega)
      obtain ⟨t, ht⟩ : ∃ t, t = (x) / 2 ^ (m - 1) % 2 := ⟨_, rfl⟩
      rw [← ht] at hst hb
      have t0 : 0 ≤ t := by omega
      have t1 : t ≤ 1 := by omega
      obtain ⟨S, hSd⟩ : ∃ S, S = (x) / 2 ^ (m - 1) * n := ⟨_, rfl⟩
      have HE : Hid (2 * q * d + (2 * r + t * n) = S) := (pstep e hst).trans hSd.symm
      have HQ : Hid (∀ q' r' : Int, 0 ≤ r' → q' * d + r' = S → q' ≤ 20000000) := fun q' r' hr' he => quot_le X0 X1 n0 n1 d0 hr' u1 (he.trans hSd)
      have HD : Hid (S = (x) / 2 ^ (m - 1) * n) := hSd
      clear hst ht e hSd v0 v1 u0 u1
      by_cases hbit : t = 1
      · subst hbit
        go_wp2
        go_loop [8, 9] (fun tq tr => ∃ q' r' : Int, 0 ≤ q' ∧ 0 ≤ r' ∧ r' ≤ 3 * d ∧ q' * d + r' = S ∧ tq = .int .i64 q' ∧ tr = .int .i64 r') (fun _ tr => (intOf tr).toNat)
        case atStart => exact ⟨2 * q, 2 * r + n, by omega, by omega, by omega, by have := HE.out; omega, rfl, rfl⟩
        case round =>
          obtain ⟨q', r', k0, k1, k2, k3, rfl, rfl⟩ := hrel
          have k4 := HQ.out q' r' k1 k3
          have HK : Hid (q' * d + r' = S) := k3
          clear k3
          by_cases hge : d ≤ r'
          · go_wp2
            exact ⟨⟨q' + 1, r' - d, by omega, by omega, by omega, inner_e HK.out, rfl, rfl⟩, by simp only [intOf]; omega⟩
          · go_wp2
            exact ⟨⟨m - 1, q', r', by omega, ⟨k0, k1, by omega, HK.out.trans HD.out⟩, rfl, rfl, by go_num⟩, by simp only [intOf]; omega⟩
      · obtain rfl : t = 0 := by omega
        go_wp2
        go_loop [8, 9] (fun tq tr => ∃ q' r' : Int, 0 ≤ q' ∧ 0 ≤ r' ∧ r' ≤ 3 * d ∧ q' * d + r' = S ∧ tq = .int .i64 q' ∧ tr = .int .i64 r') (fun _ tr => (intOf tr).toNat)
        case atStart => exact ⟨2 * q, 2 * r, by omega, by omega, by omega, by have := HE.out; omega, rfl, rfl⟩
        case round =>
          obtain ⟨q', r', k0, k1, k2, k3, rfl, rfl⟩ := hrel
          have k4 := HQ.out q' r' k1 k3
          have HK : Hid (q' * d + r' = S) := k3
          clear k3
          by_cases hge : d ≤ r'
          · go_wp2
            exact ⟨⟨q' + 1, r' - d, by omega, by omega, by omega, inner_e HK.out, rfl, rfl⟩, by simp only [intOf]; omega⟩
          · go_wp2
            exact ⟨⟨m - 1, q', r', by omega, ⟨k0, k1, by omega, HK.out.trans HD.out⟩, rfl, rfl, by go_num⟩, by simp only [intOf]; omega⟩
    · obtain rfl : m = 0 := by omega
      obtain ⟨eq, er⟩ := pinv_end d0 hI
      obtain ⟨q0, r0, r1, e⟩ := hI
      have qb := quot_le X0 X1 n0 n1 d0 r0 (div_pow_le X0 0).2 e
      clear e
      have HQ : Hid (x * n / d = q) := eq
      clear eq er
      go_wp2
      go_ret
      exact ⟨ret_int HQ.out.symm, rfl⟩

set_option maxHeartbeats 1000000 in
theorem part_neg (x n d : Int) (w : World) (x0 : x < 0) (x1 : -20000000 ≤ x) (n0 : 0 ≤ n) (n1 : n ≤ d) (d0 : 0 < d) (d1 : d ≤ 800000000000000) :
    Calls Try.prog 64 #[.int .i64 x, .int .i64 n, .int .i64 d] w fun e w' => e = .returned (.int .i64 (shareOf x n d)) ∧ w' = w := by
  have HN : Hid (shareOf x n d = if ab x * n % d > 0 then -(ab x * n / d + 1) else -(ab x * n / d)) := shareOf_neg x0 n0 d0
  have HA : Hid (ab x = -x) := by show _ = _; unfold ab; omega
  have X0 : 0 ≤ -x := by omega
  have X1 : -x ≤ 20000000 := by omega
  have hS := pinv_start (n := n) X0 X1 d0
  go_enter Try.func64, Try.ntmps64
  go_wp2
  go_loop [8, 9, 10] (fun tq tr tb => ∃ (m : Nat) (q r : Int), m ≤ 41 ∧ PInv (-x) n d m q r ∧ tq = .int .i64 q ∧ tr = .int .i64 r ∧ tb = .int .i64 ((m : Int) - 1)) (fun _ _ b => (intOf b + 1).toNat)
  case atStart => exact ⟨41, 0, 0, by omega, hS, rfl, rfl, rfl⟩
  case round =>
    clear hS
    obtain ⟨m, q, r, hm, hI, rfl, rfl, rfl⟩ := hrel
    by_cases hlt : 0 < m
    · obtain ⟨q0, r0, r1, e⟩ := hI
      obtain ⟨v0, v1⟩ := div_pow_le X0 m
      obtain ⟨u0, u1⟩ := div_pow_le X0 (m - 1)
      have qb := quot_le X0 X1 n0 n1 d0 r0 v1 e
      have hst := div_pow_step (-x) m hlt
      have hb := bit_i64 u0 (by omega)
      obtain ⟨t, ht⟩ : ∃ t, t = (-x) / 2 ^ (m - 1) % 2 := ⟨_, rfl⟩
      rw [← ht] at hst hb
      have t0 : 0 ≤ t := by omega
      have t1 : t ≤ 1 := by omega
      obtain ⟨S, hSd⟩ : ∃ S, S = (-x) / 2 ^ (m - 1) * n := ⟨_, rfl⟩
      have HE : Hid (2 * q * d + (2 * r + t * n) = S) := (pstep e hst).trans hSd.symm
      have HQ : Hid (∀ q' r' : Int, 0 ≤ r' → q' * d + r' = S → q' ≤ 20000000) := fun q' r' hr' he => quot_le X0 X1 n0 n1 d0 hr' u1 (he.trans hSd)
      have HD : Hid (S = (-x) / 2 ^ (m - 1) * n) := hSd
      clear hst ht e hSd v0 v1 u0 u1
      by_cases hbit : t = 1
      · subst hbit
        go_wp2
        go_loop [8, 9] (fun tq tr => ∃ q' r' : Int, 0 ≤ q' ∧ 0 ≤ r' ∧ r' ≤ 3 * d ∧ q' * d + r' = S ∧ tq = .int .i64 q' ∧ tr = .int .i64 r') (fun _ tr => (intOf tr).toNat)
        case atStart => exact ⟨2 * q, 2 * r + n, by omega, by omega, by omega, by have := HE.out; omega, rfl, rfl⟩
        case round =>
          obtain ⟨q', r', k0, k1, k2, k3, rfl, rfl⟩ := hrel
          have k4 := HQ.out q' r' k1 k3
          have HK : Hid (q' * d + r' = S) := k3
          clear k3
          by_cases hge : d ≤ r'
          · go_wp2
            exact ⟨⟨q' + 1, r' - d, by omega, by omega, by omega, inner_e HK.out, rfl, rfl⟩, by simp only [intOf]; omega⟩
          · go_wp2
            exact ⟨⟨m - 1, q', r', by omega, ⟨k0, k1, by omega, HK.out.trans HD.out⟩, rfl, rfl, by go_num⟩, by simp only [intOf]; omega⟩
      · obtain rfl : t = 0 := by omega
        go_wp2
        go_loop [8, 9] (fun tq tr => ∃ q' r' : Int, 0 ≤ q' ∧ 0 ≤ r' ∧ r' ≤ 3 * d ∧ q' * d + r' = S ∧ tq = .int .i64 q' ∧ tr = .int .i64 r') (fun _ tr => (intOf tr).toNat)
        case atStart => exact ⟨2 * q, 2 * r, by omega, by omega, by omega, by have := HE.out; omega, rfl, rfl⟩
        case round =>
          obtain ⟨q', r', k0, k1, k2, k3, rfl, rfl⟩ := hrel
          have k4 := HQ.out q' r' k1 k3
          have HK : Hid (q' * d + r' = S) := k3
          clear k3
          by_cases hge : d ≤ r'
          · go_wp2
            exact ⟨⟨q' + 1, r' - d, by omega, by omega, by omega, inner_e HK.out, rfl, rfl⟩, by simp only [intOf]; omega⟩
          · go_wp2
            exact ⟨⟨m - 1, q', r', by omega, ⟨k0, k1, by omega, HK.out.trans HD.out⟩, rfl, rfl, by go_num⟩, by simp only [intOf]; omega⟩
    · obtain rfl : m = 0 := by omega
      obtain ⟨eq, er⟩ := pinv_end d0 hI
      obtain ⟨q0, r0, r1, e⟩ := hI
      have qb := quot_le X0 X1 n0 n1 d0 r0 (div_pow_le X0 0).2 e
      clear e
      have HQ : Hid (-x * n / d = q ∧ -x * n % d = r) := ⟨eq, er⟩
      clear eq er
      by_cases hr : 0 < r
      · go_wp2
        go_ret
        exact ⟨ret_int (by rw [HN.out, HA.out, HQ.out.1, HQ.out.2, if_pos hr]; omega), rfl⟩
      · go_wp2
        go_ret
        exact ⟨ret_int (by rw [HN.out, HA.out, HQ.out.1, HQ.out.2, if_neg (by omega)]), rfl⟩

theorem part_any (x n d : Int) (w : World) (x0 : -20000000 ≤ x) (x1 : x ≤ 20000000) (n0 : 0 ≤ n) (n1 : n ≤ d) (d0 : 0 < d) (d1 : d ≤ 800000000000000) :
    Calls Try.prog 64 #[.int .i64 x, .int .i64 n, .int .i64 d] w fun e w' => e = .returned (.int .i64 (shareOf x n d)) ∧ w' = w := by
  by_cases h : 0 ≤ x
  · exact part_pos x n d w h x1 n0 n1 d0 d1
  · exact part_neg x n d w (by omega) x0 n0 n1 d0 d1
end Go.Proofs.Ytoeaplcijdlhnaa
