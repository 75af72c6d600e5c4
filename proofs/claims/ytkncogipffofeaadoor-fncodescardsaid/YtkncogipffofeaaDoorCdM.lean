/-
  Codes and places lead back to each other; the cells of the next level.
-/
import Derived.Test.YtkncogipffofeaaDoorCodC
import Derived.Test.YtkncogipffofeaaDoorCbxC
namespace Go.Proofs.YtkncogipffofeaaDoor
open Go.RowKit

theorem spr_low (k x : Nat) : spr (k + 1) x = x % 2 + 4 * spr k (x / 2) := by
  induction k with
  | zero => simp [spr]
  | succ k ih =>
    show spr (k + 1) x + x / 2 ^ (k + 1) % 2 * 4 ^ (k + 1) = _
    rw [ih]
    simp only [spr]
    have e1 : x / 2 ^ (k + 1) = x / 2 / 2 ^ k := by rw [Nat.pow_succ, Nat.mul_comm, Nat.div_div_eq_div_mul]
    rw [e1, Nat.pow_succ, Nat.mul_add, Nat.mul_comm (4 ^ k) 4, Nat.mul_left_comm, Nat.add_assoc]
theorem gth_mix : ∀ k X Y, X < 2 ^ k → Y < 2 ^ k → gth k (spr k X + 2 * spr k Y) = X ∧ gth k ((spr k X + 2 * spr k Y) / 2) = Y
  | 0, X, Y, hX, hY => by simp at hX hY; subst hX hY; simp [gth]
  | k + 1, X, Y, hX, hY => by
    obtain ⟨h1, h2⟩ := gth_mix k (X / 2) (Y / 2) (by rw [Nat.pow_succ] at hX; omega) (by rw [Nat.pow_succ] at hY; omega)
    rw [spr_low, spr_low, gth_low, gth_low]
    generalize spr k (X / 2) = S at h1 h2 ⊢
    generalize spr k (Y / 2) = T at h1 h2 ⊢
    have e1 : (X % 2 + 4 * S + 2 * (Y % 2 + 4 * T)) / 4 = S + 2 * T := by omega
    have e2 : (X % 2 + 4 * S + 2 * (Y % 2 + 4 * T)) / 2 / 4 = (S + 2 * T) / 2 := by omega
    rw [e1, e2, h1, h2]
    constructor <;> omega
theorem spr_mix : ∀ k c, c < 4 ^ k → spr k (gth k c) + 2 * spr k (gth k (c / 2)) = c
  | 0, c, h => by simp at h; subst h; simp [spr]
  | k + 1, c, h => by
    have ih := spr_mix k (c / 4) (by rw [Nat.pow_succ] at h; omega)
    rw [gth_low, gth_low, spr_low, spr_low]
    have e1 : (c % 2 + 2 * gth k (c / 4)) / 2 = gth k (c / 4) := by omega
    have e2 : (c / 2 % 2 + 2 * gth k (c / 2 / 4)) / 2 = gth k (c / 2 / 4) := by omega
    have e3 : c / 2 / 4 = c / 4 / 2 := by omega
    rw [e1, e2, e3]
    omega
theorem or4 {r s A B : Nat} (hr : r < 4) (hs : s < 4) : (r + 4 * A) ||| (s + 4 * B) = (r ||| s) + 4 * (A ||| B) := by
  have h1 := Nat.or_mod_two_pow (a := r + 4 * A) (b := s + 4 * B) (n := 2)
  have h2 := Nat.shiftRight_or_distrib (a := r + 4 * A) (b := s + 4 * B) (i := 2)
  simp only [Nat.shiftRight_eq_div_pow] at h2
  have e1 : (r + 4 * A) % 2 ^ 2 = r := by omega
  have e2 : (s + 4 * B) % 2 ^ 2 = s := by omega
  have e3 : (r + 4 * A) / 2 ^ 2 = A := by omega
  have e4 : (s + 4 * B) / 2 ^ 2 = B := by omega
  rw [e1, e2] at h1
  rw [e3, e4] at h2
  rw [← h1, ← h2]
  omega
theorem or_mix : ∀ k X Y, spr k X ||| 2 * spr k Y = spr k X + 2 * spr k Y
  | 0, _, _ => by simp [spr]
  | k + 1, X, Y => by
    have ih := or_mix k (X / 2) (Y / 2)
    rw [spr_low, spr_low]
    generalize spr k (X / 2) = A at ih ⊢
    generalize spr k (Y / 2) = T at ih ⊢
    have e : 2 * (Y % 2 + 4 * T) = 2 * (Y % 2) + 4 * (2 * T) := by omega
    rw [e, or4 (by omega) (by omega), ih]
    rcases Nat.mod_two_eq_zero_or_one X with h | h <;> rcases Nat.mod_two_eq_zero_or_one Y with h' | h' <;> rw [h, h'] <;> simp <;> omega
theorem or_nat64 {a b : Nat} (ha : a < 18446744073709551616) (hb : b < 18446744073709551616) (hc : a ||| b < 18446744073709551616) : bits .or .u64 (a : Int) (b : Int) = ((a ||| b : Nat) : Int) := by
  have key : (BitVec.ofInt 64 (a : Int) ||| BitVec.ofInt 64 (b : Int)).toNat = a ||| b := by
    rw [BitVec.toNat_or, BitVec.toNat_ofInt, BitVec.toNat_ofInt]
    congr 1 <;> omega
  show IntKind.u64.wrap ((BitVec.ofInt 64 (a : Int) ||| BitVec.ofInt 64 (b : Int)).toNat : Nat) = _
  rw [key, IntKind.wrap_u64]
  omega
/-- A code as a number. -/
def cdN (x y : Int) : Nat := spr 25 (x + 16777216).toNat + 2 * spr 25 (y + 16777216).toNat
theorem cdN_lt (x y : Int) : cdN x y < 3377699720527872 := by
  have h1 := spr_lt 25 (x + 16777216).toNat
  have h2 := spr_lt 25 (y + 16777216).toNat
  unfold cdN
  omega
theorem mix_nat (x y : Int) : mix x y = ((cdN x y : Nat) : Int) := by
  have h1 := spr_lt 25 (x + 16777216).toNat
  have h2 := spr_lt 25 (y + 16777216).toNat
  have h3 := cdN_lt x y
  have e : IntKind.u64.wrap (((spr 25 (y + 16777216).toNat : Nat) : Int) * 2) = ((2 * spr 25 (y + 16777216).toNat : Nat) : Int) := by rw [IntKind.wrap_u64]; omega
  have e2 := or_mix 25 (x + 16777216).toNat (y + 16777216).toNat
  unfold mix
  rw [e, or_nat64 (by omega) (by omega) (by rw [e2]; exact Nat.lt_trans h3 (by decide)), e2]
  rfl
theorem cod_nat {x y : Int} (h : pok x y = true) : cod x y = ((cdN x y : Nat) : Int) := (cod_yes h).trans (mix_nat x y)
theorem cod_some (x y : Int) : ∃ k : Nat, cod x y = (k : Int) ∧ k < 3377699720527872 := by
  cases h : pok x y
  · exact ⟨0, cod_no h, by decide⟩
  · exact ⟨_, cod_nat h, cdN_lt x y⟩
theorem pof_cod {x y : Int} (h : pok x y = true) : cdN x y < 18446744073709551616 ∧ pofB (cdN x y) = true ∧ pofX (cdN x y) = x ∧ pofY (cdN x y) = y := by
  have k := pOk_iff.1 h
  obtain ⟨a0, a1, b0, b1⟩ := k
  have hX : (x + 16777216).toNat < 2 ^ 25 := by omega
  have hY : (y + 16777216).toNat < 2 ^ 25 := by omega
  obtain ⟨e1, e2⟩ := gth_mix 25 _ _ hX hY
  have eX : plX (cdN x y) = x := by unfold plX cdN; rw [e1]; omega
  have eY : plY (cdN x y) = y := by unfold plY cdN; rw [e2]; omega
  have s1 : spr 25 (x + 16777216).toNat < 4 ^ 25 := spr_lt _ _
  have hlt : cdN x y < 1125899906842624 := by
    have := gth_mix 25 _ _ hX hY
    have t1 := cdN_lt x y
    unfold cdN at t1 ⊢
    have u : ∀ X, X < 2 ^ 25 → spr 25 X ≤ 375299968947541 := by
      intro X hX
      have : ∀ k X, 3 * spr k X + 1 ≤ 4 ^ k := by
        intro k
        induction k with
        | zero => intro X; simp [spr]
        | succ k ih => intro X; have := ih (X / 2); rw [spr_low, Nat.pow_succ]; omega
      have := this 25 X
      omega
    have u1 := u _ hX
    have u2 := u _ hY
    omega
  have hB : pofB (cdN x y) = true := by unfold pofB; rw [eX, eY, h, decide_eq_true hlt]; rfl
  obtain ⟨p1, p2⟩ := pof_yes hB
  exact ⟨Nat.lt_trans hlt (by decide), hB, p1.trans eX, p2.trans eY⟩
theorem cod_pof {c : Nat} (h : pofB c = true) : cod (pofX c) (pofY c) = (c : Int) := by
  obtain ⟨p1, p2⟩ := pof_yes h
  rw [p1, p2]
  unfold pofB at h
  simp only [Bool.and_eq_true, decide_eq_true_eq] at h
  obtain ⟨hc, hp⟩ := h
  rw [cod_nat hp]
  unfold cdN plX plY
  have g1 := gth_lt 25 c
  have g2 := gth_lt 25 (c / 2)
  rw [show ((gth 25 c : Nat) : Int) - 16777216 + 16777216 = ((gth 25 c : Nat) : Int) by omega, show ((gth 25 (c / 2) : Nat) : Int) - 16777216 + 16777216 = ((gth 25 (c / 2) : Nat) : Int) by omega, Int.toNat_natCast, Int.toNat_natCast, spr_mix 25 c (by omega)]
theorem cod_one : cod 1 0 = cod 0 0 + 1 := by
  rw [cod_nat (by decide), cod_nat (by decide)]
  have : cdN 1 0 = cdN 0 0 + 1 := by kernel_rfl
  rw [this]; rfl
theorem cod_zero : 0 ≤ cod 0 0 ∧ cod 0 0 < 3377699720527872 := by
  obtain ⟨k, e, h⟩ := cod_some 0 0
  omega

set_option maxHeartbeats 2000000 in
theorem cells_all {k L m : Nat} (hL : L + (m + 1) = 25) (hk : k < 2 ^ (2 * L)) :
    cbA (4 * k) ((L : Int) + 1) = cbA k L ∧ cbB (4 * k) ((L : Int) + 1) = cbB k L ∧ cbC (4 * k + 3) ((L : Int) + 1) = cbC k L ∧ cbD (4 * k + 3) ((L : Int) + 1) = cbD k L ∧ cbC k L - cbA k L = 2 * (cbC (4 * k) ((L : Int) + 1) - cbA k L) + 1 ∧
    (0 ≤ cbC (4 * k) ((L : Int) + 1) - cbA k L ∧ cbC (4 * k) ((L : Int) + 1) - cbA k L ≤ 33554432) ∧ -16777216 ≤ cbA k L ∧ cbA k L < 16777216 := by
  have hk4 : 4 * k < 2 ^ (2 * (L + 1)) := by rw [show 2 * (L + 1) = 2 * L + 2 by omega, Nat.pow_add]; omega
  have hk43 : 4 * k + 3 < 2 ^ (2 * (L + 1)) := by rw [show 2 * (L + 1) = 2 * L + 2 by omega, Nat.pow_add]; omega
  have c1 : celB k (L : Int) = true := by rw [celB_in (by omega)]; exact decide_eq_true hk
  have c2 : celB (4 * k) ((L + 1 : Nat) : Int) = true := by rw [celB_in (by omega)]; exact decide_eq_true hk4
  have c3 : celB (4 * k + 3) ((L + 1 : Nat) : Int) = true := by rw [celB_in (by omega)]; exact decide_eq_true hk43
  obtain ⟨a1, a2, a3, a4⟩ := cb_yes hL c1
  obtain ⟨b1, b2, b3, b4⟩ := cb_yes (m := m) (by omega) c2
  obtain ⟨d1, d2, d3, d4⟩ := cb_yes (m := m) (by omega) c3
  have fx1 := far_x (k := k) (m := m + 1) (by omega)
  have fy1 := far_y (k := k) (m := m + 1) (by omega)
  have fx2 := far_x (k := 4 * k + 3) (m := m) (by omega)
  have fy2 := far_y (k := 4 * k + 3) (m := m) (by omega)
  have hP : 2 ^ (2 * (m + 1)) = 2 ^ (2 * m) * 4 := by rw [show 2 * (m + 1) = 2 * m + 2 by omega, Nat.pow_add]
  have e4 : 4 * k * 2 ^ (2 * m) = k * 2 ^ (2 * (m + 1)) := by rw [hP, Nat.mul_comm 4 k, Nat.mul_assoc, Nat.mul_comm 4]
  have p0 : 0 < 2 ^ (2 * m) := Nat.pow_pos (by decide)
  have e5 : (4 * k + 3) * 2 ^ (2 * m) + (2 ^ (2 * m) - 1) = k * 2 ^ (2 * (m + 1)) + (2 ^ (2 * (m + 1)) - 1) := by
    rw [Nat.add_mul, e4, hP]
    clear fx1 fy1 fx2 fy2 a1 a2 a3 a4 b1 b2 b3 b4 d1 d2 d3 d4 hk4 hk43 hk e4 hP
    generalize 2 ^ (2 * m) = P at p0 ⊢
    generalize k * (P * 4) = Q
    omega
  rw [e5, fx1] at fx2
  rw [e5, fy1] at fy2
  rw [e4] at b1 b2 b3 b4
  have q : (2 : Int) ^ (m + 1) = 2 * 2 ^ m := by rw [Int.pow_succ]; omega
  have q1 : (1 : Int) ≤ 2 ^ m := by rw [pow_i]; have : 0 < 2 ^ m := Nat.pow_pos (by decide); omega
  have q2 : (2 : Int) ^ m ≤ 33554432 := by rw [pow_i]; have : 2 ^ m ≤ 2 ^ 25 := two_le (by omega); omega
  have bd := pl_bd (k * 2 ^ (2 * (m + 1)))
  have ec : ((L + 1 : Nat) : Int) = (L : Int) + 1 := by omega
  rw [ec] at b1 b2 b3 b4 d1 d2 d3 d4
  rw [q] at a3 a4 fx2 fy2
  clear fx1 fy1 e4 e5 hP p0 hk hk4 hk43 c1 c2 c3
  generalize (2 : Int) ^ m = Q at *
  generalize plX (k * 2 ^ (2 * (m + 1))) = x at *
  generalize plY (k * 2 ^ (2 * (m + 1))) = y at *
  generalize plX ((4 * k + 3) * 2 ^ (2 * m)) = x2 at *
  generalize plY ((4 * k + 3) * 2 ^ (2 * m)) = y2 at *
  rw [a1, a2, a3, a4, b1, b2, b3, d3, d4]
  clear a1 a2 a3 a4 b1 b2 b3 b4 d1 d2 d3 d4 q
  refine ⟨rfl, rfl, by omega, by omega, by omega, ⟨by omega, by omega⟩, by omega, by omega⟩
end Go.Proofs.YtkncogipffofeaaDoor
