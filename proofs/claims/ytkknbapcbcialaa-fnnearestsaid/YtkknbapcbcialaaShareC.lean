/-
  Contracts of what rounds a share down, in the program and in its model: n times part / whole.
-/
import Derived.Test.YtkknbapcbcialaaShareM
namespace Go.Proofs.Ytkknbapcbcialaa
open Go.RowKit

theorem bel_cel {W w' : World} (h : Bel W w') {b o : Nat} {v : Value} (hb : b < W.heap.size) (hc : W.cell? ⟨b, o, none⟩ = some v) : w'.cell? ⟨b, o, none⟩ = some v := by
  rw [h.out.cell (p := ⟨b, o, none⟩) hb]; exact hc

/-- A number of two words as a value. -/
abbrev dw (h l : Int) : Value := .agg #[.int .u64 h, .int .u64 l]

set_option maxHeartbeats 1000000 in
theorem product_any (a b : Int) (w : World) (a0 : 0 ≤ a) (a1 : a < 4294967296) (b0 : 0 ≤ b) (b1 : b < 4611686018427387904) :
    Calls Try.prog 88 #[.int .u64 a, .int .u64 b] w fun e w' => ∃ H L : Int, e = .returned (dw H L) ∧ (0 ≤ H ∧ 0 ≤ L ∧ L < 18446744073709551616 ∧ H * 18446744073709551616 + L = a * b) ∧ Bel w w' := by
  have ra : bits .and .u64 a 4294967295 = a := by rw [and32 a0 (by omega)]; omega
  have rz : a / 4294967296 = 0 := by omega
  obtain ⟨bl, hbl⟩ : ∃ bl, bl = b % 4294967296 := ⟨_, rfl⟩
  obtain ⟨bh, hbh⟩ : ∃ bh, bh = b / 4294967296 := ⟨_, rfl⟩
  have eb : b = bh * 4294967296 + bl := by omega
  have l0 : 0 ≤ bl := by omega
  have l1 : bl < 4294967296 := by omega
  have m0 : 0 ≤ bh := by omega
  have m1 : bh < 1073741824 := by omega
  have rb : bits .and .u64 b 4294967295 = bl := by rw [and32 b0 (by omega)]; omega
  have rh : b / 4294967296 = bh := hbh.symm
  clear hbl hbh
  obtain ⟨p0, p1⟩ := mul_lt a0 (show a ≤ 4294967295 by omega) l0 (show bl ≤ 4294967295 by omega)
  obtain ⟨q0, q1⟩ := mul_lt a0 (show a ≤ 4294967295 by omega) m0 (show bh ≤ 1073741823 by omega)
  have rp : IntKind.u64.wrap (a * bl) = a * bl := wrapU p0 (by omega)
  have rq : IntKind.u64.wrap (a * bh) = a * bh := wrapU q0 (by omega)
  obtain ⟨c, hc⟩ : ∃ c, c = a * bl / 4294967296 := ⟨_, rfl⟩
  obtain ⟨r, hr⟩ : ∃ r, r = a * bl % 4294967296 := ⟨_, rfl⟩
  have epl : a * bl = c * 4294967296 + r := by omega
  have c0 : 0 ≤ c := by omega
  have c1 : c < 4294967296 := by omega
  have r0 : 0 ≤ r := by omega
  have r1 : r < 4294967296 := by omega
  have rc : a * bl / 4294967296 = c := hc.symm
  have rr : bits .and .u64 (a * bl) 4294967295 = r := by rw [and32 p0 (by omega)]; exact hr.symm
  have rw0 : IntKind.u64.wrap 0 = 0 := by decide
  have rwc : IntKind.u64.wrap c = c := wrapU c0 (by omega)
  have rac : bits .and .u64 c 4294967295 = c := by rw [and32 c0 (by omega)]; omega
  have rcz : c / 4294967296 = 0 := by omega
  have rws : IntKind.u64.wrap (a * bh + c) = a * bh + c := wrapU (by omega) (by omega)
  clear hc hr
  obtain ⟨H, hH⟩ : ∃ H, H = (a * bh + c) / 4294967296 := ⟨_, rfl⟩
  obtain ⟨s, hs⟩ : ∃ s, s = (a * bh + c) % 4294967296 := ⟨_, rfl⟩
  have es : a * bh + c = H * 4294967296 + s := by omega
  have H0 : 0 ≤ H := by omega
  have H1 : H < 4294967296 := by omega
  have s0 : 0 ≤ s := by omega
  have s1 : s < 4294967296 := by omega
  have rH : (a * bh + c) / 4294967296 = H := hH.symm
  have rwH : IntKind.u64.wrap H = H := wrapU H0 (by omega)
  have rwt : IntKind.u64.wrap ((a * bh + c) * 4294967296) = s * 4294967296 := by rw [IntKind.wrap_u64]; omega
  have ror : bits .or .u64 (s * 4294967296) r = s * 4294967296 + r := or32 (by omega) (by omega) (by omega) r0 r1
  have HE : Hid (H * 18446744073709551616 + (s * 4294967296 + r) = a * b) := by
    show _ = _
    rw [eb, Int.mul_add]
    have e1 : a * (bh * 4294967296) = a * bh * 4294967296 := by grind
    omega
  clear hH hs eb epl es
  go_enter Try.func88, Try.ntmps88
  go_wp2
  exact bodyPost_ret (v := dw H (s * 4294967296 + r)) (by simp [results, Try.results88, go_sem]) rfl ⟨H, _, rfl, ⟨H0, by omega, by omega, HE.out⟩, bel_alloc (Bel.refl _) _⟩

/-- The two words in their block. -/
structure Two (w : World) (B : Nat) (h l : Int) : Prop where
  lt : B < w.heap.size
  c0 : w.cell? ⟨B, 0, none⟩ = some (.int .u64 h)
  c1 : w.cell? ⟨B, 1, none⟩ = some (.int .u64 l)
  fr : ∀ j, w.frozen? ⟨B, j, none⟩ = false
theorem Two.set0 {w : World} {B : Nat} {h l : Int} (t : Two w B h l) (x : Int) : Two (w.setCell ⟨B, 0, none⟩ (.int .u64 x)) B x l :=
  ⟨by simpa [World.setCell] using t.lt, World.cell?_setCell_same _ _ _ t.c0, by rw [World.cell?_setCell_other _ _ _ _ (by simp)]; exact t.c1, fun j => by rw [World.frozen?_setCell]; exact t.fr j⟩
theorem Two.set1 {w : World} {B : Nat} {h l : Int} (t : Two w B h l) (x : Int) : Two (w.setCell ⟨B, 1, none⟩ (.int .u64 x)) B h x :=
  ⟨by simpa [World.setCell] using t.lt, by rw [World.cell?_setCell_other _ _ _ _ (by simp)]; exact t.c0, World.cell?_setCell_same _ _ _ t.c1, fun j => by rw [World.frozen?_setCell]; exact t.fr j⟩

theorem pow_parts (k : Nat) (hk : k < 64) : (2 : Int) ^ (64 - k) = 2 * 2 ^ (63 - k) ∧ 2 * (2 : Int) ^ (63 - k) * 2 ^ k = 18446744073709551616 ∧ (0 : Int) < 2 ^ (63 - k) ∧ (0 : Int) < 2 ^ k ∧ (2 : Int) ^ (k + 1) = 2 * 2 ^ k := by
  refine ⟨?_, ?_, Int.pow_pos (by decide), Int.pow_pos (by decide), ?_⟩
  · rw [show 64 - k = (63 - k) + 1 by omega, Int.pow_succ]; omega
  · rw [Int.mul_assoc, ← Int.pow_add, show 63 - k + k = 63 by omega]; decide
  · rw [Int.pow_succ]; omega

set_option maxHeartbeats 2000000 in
theorem over_any (N h l d : Int) (w : World) (h0 : 0 ≤ h) (h1 : h < d) (d1 : d ≤ 800000000000000) (l0 : 0 ≤ l) (l1 : l < 18446744073709551616) (hN : N = h * 18446744073709551616 + l) :
    Calls Try.prog 90 #[dw h l, .int .u64 d] w fun e w' => e = .returned (.tuple #[.int .u64 (N / d), .int .u64 (N % d)]) ∧ Bel w w' := by
  have hI := inv_start h0 h1 l0 l1 hN
  have d0 : 0 < d := by omega
  clear hN
  go_enter Try.func90, Try.ntmps90
  go_wp2
  go_loopw [7] (fun i wr => ∃ (k : Nat) (h l : Int), k ≤ 64 ∧ i = .int .i64 k ∧ Inv N d (2 ^ (64 - k)) (2 ^ k) h l ∧ Two wr w.heap.size h l ∧ Bel w wr) (fun i _ => 64 - (intOf i).toNat)
  case atStart => exact ⟨0, h, l, by omega, rfl, hI, ⟨by simp, by simp [go_sem], by simp [go_sem], by simp⟩, bel_alloc (Bel.refl _) _⟩
  case round =>
    clear hI h0 h1 l0 l1
    obtain ⟨k, h, l, hk, rfl, hI, hT, hB⟩ := hrel
    by_cases hlt : k < 64
    · obtain ⟨e1, e2, e3, e4, e5⟩ := pow_parts k hlt
      rw [e1] at hI
      obtain ⟨h0, h1⟩ := inv_h hI
      obtain ⟨l0, l1⟩ := inv_l hI e2 e4
      obtain ⟨t0, t1, s1, s2⟩ := inv_step hI e2 e3 e4 d0
      have rn : h / 9223372036854775808 = 0 := by omega
      have ro : bits .or .u64 (h * 2) (l / 9223372036854775808) = h * 2 + l / 9223372036854775808 := or1 (by omega) (by omega) (by omega) t0 t1
      have rl : IntKind.u64.wrap (l * 2) = l * 2 % 18446744073709551616 := IntKind.wrap_u64 _
      obtain ⟨l2, hl2⟩ : ∃ l2, l2 = l * 2 % 18446744073709551616 := ⟨_, rfl⟩
      have b0 : 0 ≤ l2 := by omega
      have b1 : l2 < 18446744073709551616 := by omega
      have b2 : l2 % 2 = 0 := by omega
      obtain ⟨h2, hh2⟩ : ∃ h2, h2 = h * 2 + l / 9223372036854775808 := ⟨_, rfl⟩
      rw [← hl2] at rl s1 s2
      rw [← hh2] at ro s1 s2
      have g0 : 0 ≤ h2 := by omega
      have g1 : h2 < 18446744073709551616 := by omega
      have r1 : bits .or .u64 l2 1 = l2 + 1 := or1 b0 b1 b2 (by decide) (by decide)
      have HT : Hid (Two wr w.heap.size h l) := hT
      obtain ⟨tl, c0, c1, fr⟩ := hT
      have f0 := fr 0
      have f1 := fr 1
      have H1 : Hid (h2 < d → Inv N d (2 ^ (63 - k)) (2 * 2 ^ k) h2 l2) := s1
      have H2 : Hid (d ≤ h2 → Inv N d (2 ^ (63 - k)) (2 * 2 ^ k) (h2 - d) (l2 + 1)) := s2
      have HE : Hid (((2 : Int) ^ (k + 1) = 2 * 2 ^ k) ∧ 64 - (k + 1) = 63 - k) := ⟨e5, by omega⟩
      clear fr s1 s2 e1 e2 e3 e4 e5 hI hh2 hl2
      by_cases ht : d ≤ h2
      · go_wp2
        go_roundw
        case rel => exact ⟨k + 1, _, _, by omega, by go_num, by rw [HE.out.1, HE.out.2]; exact H2.out ht, (((HT.out.set0 h2).set1 l2).set0 (h2 - d)).set1 (l2 + 1), bel_set (bel_set (bel_set (bel_set hB (Nat.le_refl _) _) (Nat.le_refl _) _) (Nat.le_refl _) _) (Nat.le_refl _) _⟩
        case measure => simp [intOf]; omega
      · go_wp2
        go_roundw
        case rel => exact ⟨k + 1, _, _, by omega, by go_num, by rw [HE.out.1, HE.out.2]; exact H1.out (by omega), (HT.out.set0 h2).set1 l2, bel_set (bel_set hB (Nat.le_refl _) _) (Nat.le_refl _) _⟩
        case measure => simp [intOf]; omega
    · obtain rfl : k = 64 := by omega
      obtain ⟨el, eh⟩ := inv_end hI (Int.pow_pos (by decide)) d0
      obtain ⟨tl, c0, c1, fr⟩ := hT
      rw [eh] at c0
      rw [el] at c1
      clear hI el eh fr
      have hR : ∀ w', Bel wr w' → w'.cell? ⟨w.heap.size, 0, none⟩ = some (.int .u64 (N % d)) ∧ w'.cell? ⟨w.heap.size, 1, none⟩ = some (.int .u64 (N / d)) := fun w' b => ⟨bel_cel b tl c0, bel_cel b tl c1⟩
      have g0 : Bel wr wr := Bel.refl _
      clear c0 c1
      go_wp2
      go_region_held3 (fun w' => Bel wr w') (repeat (first | exact g0 | refine Bel.drew ?_ | assumption)) (fail)
      go_wp2
      go_ret2
      exact ⟨rfl, Bel.drew hB⟩

/-- How far off, whatever the side. -/
def ab (n : Int) : Int := max n (-n)
theorem abs_any (n : Int) (w : World) (h0 : -20000000 ≤ n) (h1 : n ≤ 20000000) :
    Calls Try.prog 89 #[.int .i64 n] w fun e w' => e = .returned (.int .i64 (ab n)) ∧ w' = w := by
  unfold ab
  go_enter Try.func89, Try.ntmps89
  go_wp2
  go_ret
  exact ⟨rfl, rfl⟩

theorem share_small {n p d : Int} (n0 : 0 ≤ n) (n1 : n ≤ 20000000) (p0 : 0 ≤ p) (p1 : p ≤ d) (d0 : 0 < d) : 0 ≤ n * p / d ∧ n * p / d ≤ 20000000 ∧ 0 ≤ n * p % d ∧ n * p % d < d := by
  have h1 : 0 ≤ n * p := Int.mul_nonneg n0 p0
  have h2 : n * p ≤ 20000000 * d := Int.mul_le_mul n1 p1 p0 (by decide)
  refine ⟨Int.ediv_nonneg h1 (by omega), ?_, Int.emod_nonneg _ (by omega), Int.emod_lt_of_pos _ d0⟩
  have := Int.ediv_le_ediv d0 h2
  rw [Int.mul_ediv_cancel _ (by omega)] at this
  exact this

/-- n times part / whole, rounded down. -/
def shareOf (n p d : Int) : Int := n * p / d
theorem shareOf_pos {n p d : Int} (h : 0 ≤ n) : shareOf n p d = ab n * p / d := by unfold shareOf ab; rw [show max n (-n) = n by omega]
theorem shareOf_neg {n p d : Int} (h : n < 0) (p0 : 0 ≤ p) (d0 : 0 < d) : shareOf n p d = if ab n * p % d > 0 then -(ab n * p / d + 1) else -(ab n * p / d) := by
  unfold shareOf ab
  rw [show max n (-n) = -n by omega]
  have e : n * p = -(-n * p) := by grind
  rw [e, neg_div (Int.mul_nonneg (by omega) p0) d0]

set_option maxHeartbeats 1000000 in
theorem share_any (n p d : Int) (w : World) (n0 : -20000000 ≤ n) (n1 : n ≤ 20000000) (p0 : 0 ≤ p) (p1 : p ≤ d) (d0 : 0 < d) (d1 : d ≤ 800000000000000) :
    Calls Try.prog 82 #[.int .i64 n, .int .i64 p, .int .i64 d] w fun e w' => e = .returned (.int .i64 (shareOf n p d)) ∧ Bel w w' := by
  have a0 : 0 ≤ ab n := by unfold ab; omega
  have a1 : ab n ≤ 20000000 := by unfold ab; omega
  obtain ⟨q0, q1, r0, r1⟩ := share_small a0 a1 p0 p1 d0
  by_cases hn : 0 ≤ n
  · rw [shareOf_pos hn]
    go_enter Try.func82, Try.ntmps82
    go_wp2_with fail
    refine (abs_any _ _ n0 n1).mono ?_
    rintro e w1 ⟨rfl, rfl⟩
    go_wp2_with fail
    refine (product_any _ _ _ (by omega) (by omega) (by omega) (by omega)).mono ?_
    rintro e w2 ⟨H, L, rfl, ⟨H0, L0, L1, eN⟩, hb2⟩
    have hH : H < d := by
      have : ab n * p ≤ 20000000 * d := Int.mul_le_mul a1 p1 p0 (by decide)
      omega
    have eN' := eN.symm
    clear eN
    go_wp2_with fail
    refine (over_any (ab n * p) _ _ _ _ H0 hH d1 L0 L1 eN').mono ?_
    rintro e w3 ⟨rfl, hb3⟩
    clear eN'
    go_wp2
    go_ret
    exact ⟨rfl, bel_step hb2 hb3⟩
  · have hn : n < 0 := by omega
    rw [shareOf_neg hn p0 d0]
    by_cases hr : 0 < ab n * p % d
    · rw [if_pos hr]
      go_enter Try.func82, Try.ntmps82
      go_wp2_with fail
      refine (abs_any _ _ n0 n1).mono ?_
      rintro e w1 ⟨rfl, rfl⟩
      go_wp2_with fail
      refine (product_any _ _ _ (by omega) (by omega) (by omega) (by omega)).mono ?_
      rintro e w2 ⟨H, L, rfl, ⟨H0, L0, L1, eN⟩, hb2⟩
      have hH : H < d := by
        have : ab n * p ≤ 20000000 * d := Int.mul_le_mul a1 p1 p0 (by decide)
        omega
      have eN' := eN.symm
      clear eN
      go_wp2_with fail
      refine (over_any (ab n * p) _ _ _ _ H0 hH d1 L0 L1 eN').mono ?_
      rintro e w3 ⟨rfl, hb3⟩
      clear eN'
      go_wp2
      go_ret
      exact ⟨rfl, bel_step hb2 hb3⟩
    · rw [if_neg hr]
      go_enter Try.func82, Try.ntmps82
      go_wp2_with fail
      refine (abs_any _ _ n0 n1).mono ?_
      rintro e w1 ⟨rfl, rfl⟩
      go_wp2_with fail
      refine (product_any _ _ _ (by omega) (by omega) (by omega) (by omega)).mono ?_
      rintro e w2 ⟨H, L, rfl, ⟨H0, L0, L1, eN⟩, hb2⟩
      have hH : H < d := by
        have : ab n * p ≤ 20000000 * d := Int.mul_le_mul a1 p1 p0 (by decide)
        omega
      have eN' := eN.symm
      clear eN
      go_wp2_with fail
      refine (over_any (ab n * p) _ _ _ _ H0 hH d1 L0 L1 eN').mono ?_
      rintro e w3 ⟨rfl, hb3⟩
      clear eN'
      go_wp2
      go_ret
      exact ⟨rfl, bel_step hb2 hb3⟩
end Go.Proofs.Ytkknbapcbcialaa
