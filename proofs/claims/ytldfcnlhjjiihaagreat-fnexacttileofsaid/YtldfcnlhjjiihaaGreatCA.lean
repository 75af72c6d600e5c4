/-
  Contract of math/bits.Len64 as it is wanted here: the number that it tells is at most 64, and the argument is below that power of two.
  How a point that is handed in is read: the value written out, its numbers within their kind.
  Contracts of Root, in the program and in its model: for every int64 both tell the whole root (-1 below 0).
  Contracts of Distance and of what it is made of, in the program and in its model: for every two points.
  The plain mathematics of a share that is rounded down: words of 64 bits, a product in two of them, a division bit by bit. No condition beyond what each lemma names.
  Contracts of what rounds a share down, in the program and in its model: n times part / whole.
-/
import Derived.Test.YtldfcnlhjjiihaaGreatRows
import Derived.Lib.Strings
import Derived.Lib.Slices
import Derived.Lib.Small
import Derived.Lib.Walk
import Derived.Lib.BitFns
import Derived.Lib.ItoaNum
import Derived.Test.YtldfcnlhjjiihaaGreatGA
import Derived.ProofKit
import Derived.Carry
import Derived.Lib.SmallJoins
import Derived.Deep.RegionHeld3
namespace Go.Proofs.YtldfcnlhjjiihaaGreat

/-! ### How many bits a number has: no more is wanted than that the number is below that power of two -/
end Go.Proofs.YtldfcnlhjjiihaaGreat

namespace Go.Proofs.YtldfcnlhjjiihaaGreat
open Go.ChangeShapes Go.WideShapes Go.ChangeAt Go.RowKit Go.Joins

end Go.Proofs.YtldfcnlhjjiihaaGreat

namespace Go.Proofs.YtldfcnlhjjiihaaGreat
open Go.ChangeShapes Go.WideShapes Go.ChangeAt Go.RowKit

end Go.Proofs.YtldfcnlhjjiihaaGreat

namespace Go.Proofs.YtldfcnlhjjiihaaGreat
open Go.RowKit

/-! ### Plain bounds -/
theorem mul_bd {u v : Int} (m : Int) (_hm : 0 ≤ m) (u0 : -m ≤ u) (u1 : u ≤ m) (v0 : -m ≤ v) (v1 : v ≤ m) : -(m * m) ≤ u * v ∧ u * v ≤ m * m := by
 have h1 : 0 ≤ (m - u) * (m + v) := Int.mul_nonneg (by omega) (by omega)
 have h2 : 0 ≤ (m + u) * (m - v) := Int.mul_nonneg (by omega) (by omega)
 have h3 : 0 ≤ (m - u) * (m - v) := Int.mul_nonneg (by omega) (by omega)
 have h4 : 0 ≤ (m + u) * (m + v) := Int.mul_nonneg (by omega) (by omega)
 simp only [Int.mul_add, Int.add_mul, Int.sub_mul, Int.mul_sub, Int.mul_comm m v] at h1 h2 h3 h4
 constructor <;> omega
theorem mul_bd7 {u v : Int} (u0 : -20000000 ≤ u) (u1 : u ≤ 20000000) (v0 : -20000000 ≤ v) (v1 : v ≤ 20000000) : -400000000000000 ≤ u * v ∧ u * v ≤ 400000000000000 := by
 have := mul_bd 20000000 (by decide) (u := u) (v := v) (by omega) u1 (by omega) v1
 omega
/-- A point can be, as four bounds. -/
structure POk (x y : Int) : Prop where
 x0 : -10000000 ≤ x
 x1 : x ≤ 10000000
 y0 : -10000000 ≤ y
 y1 : y ≤ 10000000
theorem pOk_iff {x y : Int} : pok x y = true ↔ POk x y := by
 simp only [pok, Bool.and_eq_true, cok_iff]
 exact ⟨fun ⟨⟨a, b⟩, c, d⟩ => ⟨a, b, c, d⟩, fun ⟨a, b, c, d⟩ => ⟨⟨a, b⟩, c, d⟩⟩
end Go.Proofs.YtldfcnlhjjiihaaGreat

namespace Go.Proofs.YtldfcnlhjjiihaaGreat
open Go.RowKit

theorem and32 {x : Int} (h0 : 0 ≤ x) (h1 : x < 18446744073709551616) : bits .and .u64 x 4294967295 = x % 4294967296 := by
 rw [u64_and x 4294967295 h0 h1 (by decide) (by decide)]
 have := Nat.and_two_pow_sub_one_eq_mod x.toNat 32
 have e : x.toNat &&& 4294967295 = x.toNat % 4294967296 := this
 rw [show (4294967295 : Int).toNat = 4294967295 from rfl, e]
 omega
theorem or32 {x y : Int} (h0 : 0 ≤ x) (h1 : x < 18446744073709551616) (hx : x % 4294967296 = 0) (y0 : 0 ≤ y) (y1 : y < 4294967296) : bits .or .u64 x y = x + y := by
 rw [u64_or x y h0 h1 y0 (by omega), nat_join 32 x.toNat y.toNat (by show x.toNat % 4294967296 = 0; omega) (by show y.toNat < 4294967296; omega)]
 omega
theorem or1 {x y : Int} (h0 : 0 ≤ x) (h1 : x < 18446744073709551616) (hx : x % 2 = 0) (y0 : 0 ≤ y) (y1 : y ≤ 1) : bits .or .u64 x y = x + y := by
 rw [u64_or x y h0 h1 y0 (by omega), nat_join 1 x.toNat y.toNat (by show x.toNat % 2 = 0; omega) (by show y.toNat < 2; omega)]
 omega
theorem wrapU {x : Int} (h0 : 0 ≤ x) (h1 : x < 18446744073709551616) : IntKind.u64.wrap x = x := by
 rw [IntKind.wrap_u64]; omega

theorem mul_lt {a b A B : Int} (a0 : 0 ≤ a) (a1 : a ≤ A) (b0 : 0 ≤ b) (b1 : b ≤ B) : 0 ≤ a * b ∧ a * b ≤ A * B :=
 ⟨Int.mul_nonneg a0 b0, Int.mul_le_mul a1 b1 b0 (by omega)⟩

/-- What one round of the division knows. -/
structure Inv (N d : Int) (M P h l : Int) : Prop where
 ex : ∃ R q : Int, 0 ≤ h ∧ h < d ∧ 0 ≤ R ∧ R < M ∧ 0 ≤ q ∧ q < P ∧ l = R * P + q ∧ N = (q * d + h) * M + R

theorem inv_start {N d h l : Int} (h0 : 0 ≤ h) (h1 : h < d) (l0 : 0 ≤ l) (l1 : l < 18446744073709551616) (e : N = h * 18446744073709551616 + l) : Inv N d 18446744073709551616 1 h l :=
 ⟨l, 0, h0, h1, l0, l1, by decide, by decide, by omega, by omega⟩

theorem inv_l {N d M P h l : Int} (i : Inv N d M P h l) (hMP : M * P = 18446744073709551616) (hP : 0 < P) : 0 ≤ l ∧ l < 18446744073709551616 := by
 obtain ⟨R, q, h0, h1, r0, r1, q0, q1, e, _⟩ := i.ex
 have a1 : 0 ≤ R * P := Int.mul_nonneg r0 (by omega)
 have a2 : (R + 1) * P ≤ M * P := Int.mul_le_mul_of_nonneg_right (by omega) (by omega)
 have a3 : (R + 1) * P = R * P + P := by grind
 omega
theorem inv_h {N d M P h l : Int} (i : Inv N d M P h l) : 0 ≤ h ∧ h < d := by
 obtain ⟨R, q, h0, h1, _⟩ := i.ex
 exact ⟨h0, h1⟩

/-- One bit more: what the program reckons. -/
theorem inv_step {N d M P h l : Int} (i : Inv N d (2 * M) P h l) (hMP : 2 * M * P = 18446744073709551616) (_hM : 0 < M) (hP : 0 < P) (_hd : 0 < d) :
  0 ≤ l / 9223372036854775808 ∧ l / 9223372036854775808 ≤ 1 ∧
  (h * 2 + l / 9223372036854775808 < d → Inv N d M (2 * P) (h * 2 + l / 9223372036854775808) (l * 2 % 18446744073709551616)) ∧
  (d ≤ h * 2 + l / 9223372036854775808 → Inv N d M (2 * P) (h * 2 + l / 9223372036854775808 - d) (l * 2 % 18446744073709551616 + 1)) := by
 obtain ⟨R, q, h0, h1, r0, r1, q0, q1, e, eN⟩ := i.ex
 have mp : M * P = 9223372036854775808 := by grind
 have hl := inv_l i hMP hP
 by_cases hR : R < M
 ·have a1 : (R + 1) * P ≤ M * P := Int.mul_le_mul_of_nonneg_right (by omega) (by omega)
  have a3 : (R + 1) * P = R * P + P := by grind
  have ht : l / 9223372036854775808 = 0 := by omega
  have hl2 : l * 2 % 18446744073709551616 = l * 2 := by omega
  rw [ht, hl2]
  refine ⟨by decide, by decide, fun hh => ⟨R, 2 * q, by omega, hh, r0, hR, by omega, by omega, by rw [e]; grind, by rw [eN]; grind⟩, fun hh => ⟨R, 2 * q + 1, by omega, by omega, r0, hR, by omega, by omega, by rw [e]; grind, by rw [eN]; grind⟩⟩
 ·have a1 : M * P ≤ R * P := Int.mul_le_mul_of_nonneg_right (by omega) (by omega)
  have ht : l / 9223372036854775808 = 1 := by omega
  have hl2 : l * 2 % 18446744073709551616 = l * 2 - 18446744073709551616 := by omega
  rw [ht, hl2]
  refine ⟨by decide, by decide, fun hh => ⟨R - M, 2 * q, by omega, hh, by omega, by omega, by omega, by omega, by rw [e]; grind, by rw [eN]; grind⟩, fun hh => ⟨R - M, 2 * q + 1, by omega, by omega, by omega, by omega, by omega, by omega, by rw [e]; grind, by rw [eN]; grind⟩⟩

theorem inv_end {N d h l P : Int} (i : Inv N d 1 P h l) (_hP : 0 < P) (hd : 0 < d) : l = N / d ∧ h = N % d := by
 obtain ⟨R, q, h0, h1, r0, r1, q0, q1, e, eN⟩ := i.ex
 have hR : R = 0 := by omega
 subst hR
 have el : l = q := by omega
 have eN' : N = h + d * q := by rw [eN]; grind
 rw [el, eN']
 exact ⟨by rw [Int.add_mul_ediv_left _ _ (by omega)]; rw [Int.ediv_eq_zero_of_lt h0 h1]; omega, by rw [Int.add_mul_emod_self_left]; exact (Int.emod_eq_of_lt h0 h1).symm⟩

/-- A quotient rounded down, of a number below 0. -/
theorem neg_div {m d : Int} (_hm : 0 ≤ m) (hd : 0 < d) : (-m) / d = if m % d > 0 then -(m / d + 1) else -(m / d) := by
 have e : m = d * (m / d) + m % d := (Int.mul_ediv_add_emod m d).symm
 have r0 := Int.emod_nonneg m (show d ≠ 0 by omega)
 have r1 := Int.emod_lt_of_pos m hd
 generalize m / d = q at *
 generalize m % d = r at *
 split
 ·have e2 : -m = (d - r) + d * (-(q + 1)) := by grind
  rw [e2, Int.add_mul_ediv_left _ _ (by omega), Int.ediv_eq_zero_of_lt (by omega) (by omega)]; omega
 ·have hr : r = 0 := by omega
  have e2 : -m = 0 + d * (-q) := by grind
  rw [e2, Int.add_mul_ediv_left _ _ (by omega)]; simp
end Go.Proofs.YtldfcnlhjjiihaaGreat

namespace Go.Proofs.YtldfcnlhjjiihaaGreat
open Go.RowKit

theorem bel_cel {W w' : World} (h : Bel W w') {b o : Nat} {v : Value} (hb : b < W.heap.size) (hc : W.cell? ⟨b, o, none⟩ = some v) : w'.cell? ⟨b, o, none⟩ = some v := by
 rw [h.out.cell (p := ⟨b, o, none⟩) hb]; exact hc

/-- A number of two words as a value. -/
abbrev dw (h l : Int) : Value := .agg #[.int .u64 h, .int .u64 l]

set_option maxHeartbeats 1000000 in
theorem product_any (a b : Int) (w : World) (a0 : 0 ≤ a) (a1 : a < 4294967296) (b0 : 0 ≤ b) (b1 : b < 4611686018427387904) :
  Calls Tryz.prog 138 #[.int .u64 a, .int .u64 b] w fun e w' => ∃ H L : Int, e = .returned (dw H L) ∧ (0 ≤ H ∧ 0 ≤ L ∧ L < 18446744073709551616 ∧ H * 18446744073709551616 + L = a * b) ∧ Bel w w' := by
 have ra : bits .and .u64 a 4294967295 = a := by rw [and32 a0 (by omega)]; omega
 have rz : a / 4294967296 = 0 := by omega
 obtain ⟨bl, hbl⟩ : ∃ bl, bl = b % 4294967296 := ⟨_, rfl⟩
 obtain ⟨bh, hbh⟩ : ∃ bh, bh = b / 4294967296 := ⟨_, rfl⟩
 have eb : b = bh * 4294967296 + bl := by omega
 have l0 : 0 ≤ bl := by omega
 have l1 : bl < 4294967296 := by omega
 have m0 : 0 ≤ bh := by omega
 have m1 : bh < 1073741824 := by omega
 have rb : bits .and .u64 b 4294967295 = bl := by rw [and32 b0 (by omega)]; omega
 have rh : b / 4294967296 = bh := hbh.symm
 clear hbl hbh
 obtain ⟨p0, p1⟩ := mul_lt a0 (show a ≤ 4294967295 by omega) l0 (show bl ≤ 4294967295 by omega)
 obtain ⟨q0, q1⟩ := mul_lt a0 (show a ≤ 4294967295 by omega) m0 (show bh ≤ 1073741823 by omega)
 have rp : IntKind.u64.wrap (a * bl) = a * bl := wrapU p0 (by omega)
 have rq : IntKind.u64.wrap (a * bh) = a * bh := wrapU q0 (by omega)
 obtain ⟨c, hc⟩ : ∃ c, c = a * bl / 4294967296 := ⟨_, rfl⟩
 obtain ⟨r, hr⟩ : ∃ r, r = a * bl % 4294967296 := ⟨_, rfl⟩
 have epl : a * bl = c * 4294967296 + r := by omega
 have c0 : 0 ≤ c := by omega
 have c1 : c < 4294967296 := by omega
 have r0 : 0 ≤ r := by omega
 have r1 : r < 4294967296 := by omega
 have rc : a * bl / 4294967296 = c := hc.symm
 have rr : bits .and .u64 (a * bl) 4294967295 = r := by rw [and32 p0 (by omega)]; exact hr.symm
 have rw0 : IntKind.u64.wrap 0 = 0 := by decide
 have rwc : IntKind.u64.wrap c = c := wrapU c0 (by omega)
 have rac : bits .and .u64 c 4294967295 = c := by rw [and32 c0 (by omega)]; omega
 have rcz : c / 4294967296 = 0 := by omega
 have rws : IntKind.u64.wrap (a * bh + c) = a * bh + c := wrapU (by omega) (by omega)
 clear hc hr
 obtain ⟨H, hH⟩ : ∃ H, H = (a * bh + c) / 4294967296 := ⟨_, rfl⟩
 obtain ⟨s, hs⟩ : ∃ s, s = (a * bh + c) % 4294967296 := ⟨_, rfl⟩
 have es : a * bh + c = H * 4294967296 + s := by omega
 have H0 : 0 ≤ H := by omega
 have H1 : H < 4294967296 := by omega
 have s0 : 0 ≤ s := by omega
 have s1 : s < 4294967296 := by omega
 have rH : (a * bh + c) / 4294967296 = H := hH.symm
 have rwH : IntKind.u64.wrap H = H := wrapU H0 (by omega)
 have rwt : IntKind.u64.wrap ((a * bh + c) * 4294967296) = s * 4294967296 := by rw [IntKind.wrap_u64]; omega
 have ror : bits .or .u64 (s * 4294967296) r = s * 4294967296 + r := or32 (by omega) (by omega) (by omega) r0 r1
 have HE : Hid (H * 18446744073709551616 + (s * 4294967296 + r) = a * b) := by
  show _ = _
  rw [eb, Int.mul_add]
  have e1 : a * (bh * 4294967296) = a * bh * 4294967296 := by grind
  omega
 clear hH hs eb epl es
 go_enter Tryz.func138, Tryz.ntmps138
 go_wp2
 exact bodyPost_ret (v := dw H (s * 4294967296 + r)) (by simp [results, Tryz.results138, go_sem]) rfl ⟨H, _, rfl, ⟨H0, by omega, by omega, HE.out⟩, bel_alloc (Bel.refl _) _⟩

/-- The two words in their block. -/
structure Two (w : World) (B : Nat) (h l : Int) : Prop where
 lt : B < w.heap.size
 c0 : w.cell? ⟨B, 0, none⟩ = some (.int .u64 h)
 c1 : w.cell? ⟨B, 1, none⟩ = some (.int .u64 l)
 fr : ∀ j, w.frozen? ⟨B, j, none⟩ = false
theorem Two.set0 {w : World} {B : Nat} {h l : Int} (t : Two w B h l) (x : Int) : Two (w.setCell ⟨B, 0, none⟩ (.int .u64 x)) B x l :=
 ⟨by simpa [World.setCell] using t.lt, World.cell?_setCell_same _ _ _ t.c0, by rw [World.cell?_setCell_other _ _ _ _ (by simp)]; exact t.c1, fun j => by rw [World.frozen?_setCell]; exact t.fr j⟩
theorem Two.set1 {w : World} {B : Nat} {h l : Int} (t : Two w B h l) (x : Int) : Two (w.setCell ⟨B, 1, none⟩ (.int .u64 x)) B h x :=
 ⟨by simpa [World.setCell] using t.lt, by rw [World.cell?_setCell_other _ _ _ _ (by simp)]; exact t.c0, World.cell?_setCell_same _ _ _ t.c1, fun j => by rw [World.frozen?_setCell]; exact t.fr j⟩

theorem pow_parts (k : Nat) (hk : k < 64) : (2 : Int) ^ (64 - k) = 2 * 2 ^ (63 - k) ∧ 2 * (2 : Int) ^ (63 - k) * 2 ^ k = 18446744073709551616 ∧ (0 : Int) < 2 ^ (63 - k) ∧ (0 : Int) < 2 ^ k ∧ (2 : Int) ^ (k + 1) = 2 * 2 ^ k := by
 refine ⟨?_, ?_, Int.pow_pos (by decide), Int.pow_pos (by decide), ?_⟩
 ·rw [show 64 - k = (63 - k) + 1 by omega, Int.pow_succ]; omega
 ·rw [Int.mul_assoc, ← Int.pow_add, show 63 - k + k = 63 by omega]; decide
 ·rw [Int.pow_succ]; omega

set_option maxHeartbeats 2000000 in
theorem over_any (N h l d : Int) (w : World) (h0 : 0 ≤ h) (h1 : h < d) (d1 : d ≤ 800000000000000) (l0 : 0 ≤ l) (l1 : l < 18446744073709551616) (hN : N = h * 18446744073709551616 + l) :
  Calls Tryz.prog 140 #[dw h l, .int .u64 d] w fun e w' => e = .returned (.tuple #[.int .u64 (N / d), .int .u64 (N % d)]) ∧ Bel w w' := by
 have hI := inv_start h0 h1 l0 l1 hN
 have d0 : 0 < d := by omega
 clear hN
 go_enter Tryz.func140, Tryz.ntmps140
 go_wp2
 go_loopw [7] (fun i wr => ∃ (k : Nat) (h l : Int), k ≤ 64 ∧ i = .int .i64 k ∧ Inv N d (2 ^ (64 - k)) (2 ^ k) h l ∧ Two wr w.heap.size h l ∧ Bel w wr) (fun i _ => 64 - (intOf i).toNat)
 case atStart => exact ⟨0, h, l, by omega, rfl, hI, ⟨by simp, by simp [go_sem], by simp [go_sem], by simp⟩, bel_alloc (Bel.refl _) _⟩
 case round =>
  clear hI h0 h1 l0 l1
  obtain ⟨k, h, l, hk, rfl, hI, hT, hB⟩ := hrel
  by_cases hlt : k < 64
  ·obtain ⟨e1, e2, e3, e4, e5⟩ := pow_parts k hlt
   rw [e1] at hI
   obtain ⟨h0, h1⟩ := inv_h hI
   obtain ⟨l0, l1⟩ := inv_l hI e2 e4
   obtain ⟨t0, t1, s1, s2⟩ := inv_step hI e2 e3 e4 d0
   have rn : h / 9223372036854775808 = 0 := by omega
   have ro : bits .or .u64 (h * 2) (l / 9223372036854775808) = h * 2 + l / 9223372036854775808 := or1 (by omega) (by omega) (by omega) t0 t1
   have rl : IntKind.u64.wrap (l * 2) = l * 2 % 18446744073709551616 := IntKind.wrap_u64 _
   obtain ⟨l2, hl2⟩ : ∃ l2, l2 = l * 2 % 18446744073709551616 := ⟨_, rfl⟩
   have b0 : 0 ≤ l2 := by omega
   have b1 : l2 < 18446744073709551616 := by omega
   have b2 : l2 % 2 = 0 := by omega
   obtain ⟨h2, hh2⟩ : ∃ h2, h2 = h * 2 + l / 9223372036854775808 := ⟨_, rfl⟩
   rw [← hl2] at rl s1 s2
   rw [← hh2] at ro s1 s2
   have g0 : 0 ≤ h2 := by omega
   have g1 : h2 < 18446744073709551616 := by omega
   have r1 : bits .or .u64 l2 1 = l2 + 1 := or1 b0 b1 b2 (by decide) (by decide)
   have HT : Hid (Two wr w.heap.size h l) := hT
   obtain ⟨tl, c0, c1, fr⟩ := hT
   have f0 := fr 0
   have f1 := fr 1
   have H1 : Hid (h2 < d → Inv N d (2 ^ (63 - k)) (2 * 2 ^ k) h2 l2) := s1
   have H2 : Hid (d ≤ h2 → Inv N d (2 ^ (63 - k)) (2 * 2 ^ k) (h2 - d) (l2 + 1)) := s2
   have HE : Hid (((2 : Int) ^ (k + 1) = 2 * 2 ^ k) ∧ 64 - (k + 1) = 63 - k) := ⟨e5, by omega⟩
   clear fr s1 s2 e1 e2 e3 e4 e5 hI hh2 hl2
   by_cases ht : d ≤ h2
   ·go_wp2
    go_roundw
    case rel => exact ⟨k + 1, _, _, by omega, by go_num, by rw [HE.out.1, HE.out.2]; exact H2.out ht, (((HT.out.set0 h2).set1 l2).set0 (h2 - d)).set1 (l2 + 1), bel_set (bel_set (bel_set (bel_set hB (Nat.le_refl _) _) (Nat.le_refl _) _) (Nat.le_refl _) _) (Nat.le_refl _) _⟩
    case measure => simp [intOf]; omega
   ·go_wp2
    go_roundw
    case rel => exact ⟨k + 1, _, _, by omega, by go_num, by rw [HE.out.1, HE.out.2]; exact H1.out (by omega), (HT.out.set0 h2).set1 l2, bel_set (bel_set hB (Nat.le_refl _) _) (Nat.le_refl _) _⟩
    case measure => simp [intOf]; omega
  ·obtain rfl : k = 64 := by omega
   obtain ⟨el, eh⟩ := inv_end hI (Int.pow_pos (by decide)) d0
   obtain ⟨tl, c0, c1, fr⟩ := hT
   rw [eh] at c0
   rw [el] at c1
   clear hI el eh fr
   have hR : ∀ w', Bel wr w' → w'.cell? ⟨w.heap.size, 0, none⟩ = some (.int .u64 (N % d)) ∧ w'.cell? ⟨w.heap.size, 1, none⟩ = some (.int .u64 (N / d)) := fun w' b => ⟨bel_cel b tl c0, bel_cel b tl c1⟩
   have g0 : Bel wr wr := Bel.refl _
   clear c0 c1
   go_wp2
   go_region_held3 (fun w' => Bel wr w') (repeat (first | exact g0 | refine Bel.drew ?_ | assumption)) (fail)
   go_wp2
   go_ret2
   exact ⟨rfl, Bel.drew hB⟩

/-- How far off, whatever the side. -/
def ab (n : Int) : Int := max n (-n)
theorem abs_any (n : Int) (w : World) (h0 : -20000000 ≤ n) (h1 : n ≤ 20000000) :
  Calls Tryz.prog 139 #[.int .i64 n] w fun e w' => e = .returned (.int .i64 (ab n)) ∧ w' = w := by
 unfold ab
 go_enter Tryz.func139, Tryz.ntmps139
 go_wp2
 go_ret
 exact ⟨rfl, rfl⟩

theorem share_small {n p d : Int} (n0 : 0 ≤ n) (n1 : n ≤ 20000000) (p0 : 0 ≤ p) (p1 : p ≤ d) (d0 : 0 < d) : 0 ≤ n * p / d ∧ n * p / d ≤ 20000000 ∧ 0 ≤ n * p % d ∧ n * p % d < d := by
 have h1 : 0 ≤ n * p := Int.mul_nonneg n0 p0
 have h2 : n * p ≤ 20000000 * d := Int.mul_le_mul n1 p1 p0 (by decide)
 refine ⟨Int.ediv_nonneg h1 (by omega), ?_, Int.emod_nonneg _ (by omega), Int.emod_lt_of_pos _ d0⟩
 have := Int.ediv_le_ediv d0 h2
 rw [Int.mul_ediv_cancel _ (by omega)] at this
 exact this

/-- n times part / whole, rounded down. -/
def shareOf (n p d : Int) : Int := n * p / d
theorem shareOf_pos {n p d : Int} (h : 0 ≤ n) : shareOf n p d = ab n * p / d := by unfold shareOf ab; rw [show max n (-n) = n by omega]
theorem shareOf_neg {n p d : Int} (h : n < 0) (p0 : 0 ≤ p) (d0 : 0 < d) : shareOf n p d = if ab n * p % d > 0 then -(ab n * p / d + 1) else -(ab n * p / d) := by
 unfold shareOf ab
 rw [show max n (-n) = -n by omega]
 have e : n * p = -(-n * p) := by grind
 rw [e, neg_div (Int.mul_nonneg (by omega) p0) d0]

set_option maxHeartbeats 1000000 in
theorem share_any (n p d : Int) (w : World) (n0 : -20000000 ≤ n) (n1 : n ≤ 20000000) (p0 : 0 ≤ p) (p1 : p ≤ d) (d0 : 0 < d) (d1 : d ≤ 800000000000000) :
  Calls Tryz.prog 135 #[.int .i64 n, .int .i64 p, .int .i64 d] w fun e w' => e = .returned (.int .i64 (shareOf n p d)) ∧ Bel w w' := by
 have a0 : 0 ≤ ab n := by unfold ab; omega
 have a1 : ab n ≤ 20000000 := by unfold ab; omega
 obtain ⟨q0, q1, r0, r1⟩ := share_small a0 a1 p0 p1 d0
 by_cases hn : 0 ≤ n
 ·rw [shareOf_pos hn]
  go_enter Tryz.func135, Tryz.ntmps135
  go_wp2_with fail
  refine (abs_any _ _ n0 n1).mono ?_
  rintro e w1 ⟨rfl, rfl⟩
  go_wp2_with fail
  refine (product_any _ _ _ (by omega) (by omega) (by omega) (by omega)).mono ?_
  rintro e w2 ⟨H, L, rfl, ⟨H0, L0, L1, eN⟩, hb2⟩
  have hH : H < d := by
   have : ab n * p ≤ 20000000 * d := Int.mul_le_mul a1 p1 p0 (by decide)
   omega
  have eN' := eN.symm
  clear eN
  go_wp2_with fail
  refine (over_any (ab n * p) _ _ _ _ H0 hH d1 L0 L1 eN').mono ?_
  rintro e w3 ⟨rfl, hb3⟩
  clear eN'
  go_wp2
  go_ret
  exact ⟨rfl, bel_step hb2 hb3⟩
 ·have hn : n < 0 := by omega
  rw [shareOf_neg hn p0 d0]
  by_cases hr : 0 < ab n * p % d
  ·rw [if_pos hr]
   go_enter Tryz.func135, Tryz.ntmps135
   go_wp2_with fail
   refine (abs_any _ _ n0 n1).mono ?_
   rintro e w1 ⟨rfl, rfl⟩
   go_wp2_with fail
   refine (product_any _ _ _ (by omega) (by omega) (by omega) (by omega)).mono ?_
   rintro e w2 ⟨H, L, rfl, ⟨H0, L0, L1, eN⟩, hb2⟩
   have hH : H < d := by
    have : ab n * p ≤ 20000000 * d := Int.mul_le_mul a1 p1 p0 (by decide)
    omega
   have eN' := eN.symm
   clear eN
   go_wp2_with fail
   refine (over_any (ab n * p) _ _ _ _ H0 hH d1 L0 L1 eN').mono ?_
   rintro e w3 ⟨rfl, hb3⟩
   clear eN'
   go_wp2
   go_ret
   exact ⟨rfl, bel_step hb2 hb3⟩
  ·rw [if_neg hr]
   go_enter Tryz.func135, Tryz.ntmps135
   go_wp2_with fail
   refine (abs_any _ _ n0 n1).mono ?_
   rintro e w1 ⟨rfl, rfl⟩
   go_wp2_with fail
   refine (product_any _ _ _ (by omega) (by omega) (by omega) (by omega)).mono ?_
   rintro e w2 ⟨H, L, rfl, ⟨H0, L0, L1, eN⟩, hb2⟩
   have hH : H < d := by
    have : ab n * p ≤ 20000000 * d := Int.mul_le_mul a1 p1 p0 (by decide)
    omega
   have eN' := eN.symm
   clear eN
   go_wp2_with fail
   refine (over_any (ab n * p) _ _ _ _ H0 hH d1 L0 L1 eN').mono ?_
   rintro e w3 ⟨rfl, hb3⟩
   clear eN'
   go_wp2
   go_ret
   exact ⟨rfl, bel_step hb2 hb3⟩
end Go.Proofs.YtldfcnlhjjiihaaGreat
