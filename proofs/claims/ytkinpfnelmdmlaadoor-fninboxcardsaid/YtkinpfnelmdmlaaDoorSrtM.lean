/-
  Contract of the library's merging of two runs, at numbers, whatever their lengths.
-/
import Derived.Test.YtkinpfnelmdmlaaDoorSrtU
import Derived.Deep.DeepCutAuto
namespace Go.Proofs.YtkinpfnelmdmlaaDoor
open Go.RowKit Go.Maps Go.Shelf

/-- What a merging leaves. -/
def Mgd (W : World) (B n : Nat) (K : Nat → Int) (d : Nat → Nat) (a b : Nat) (w : World) : Prop := ∃ d', Sw W B n d' w ∧ Frm d d' a b ∧ Inc K d' a b
/-- The merging's contract, for runs that are not longer than N together. -/
def MgdUpto (W : World) (B n c : Nat) (K : Nat → Int) (g : Nat) (p : Value) (N : Nat) : Prop := ∀ (d : Nat → Nat) (a m b : Nat) (w : World), b ≤ a + N → Sw W B n d w → a < m → m < b → b ≤ n → Mok K d a m b → (∀ i, i < n → d i < n) →
  Calls Tryd.prog 46 #[.slice (some ⟨B, 0, none⟩) n c, .int .i64 a, .int .i64 m, .int .i64 b, .func (.func g) #[] #[p]] w fun e w' => e = .returned (.tuple #[]) ∧ Mgd W B n K d a b w'

/-- The two halves merged. -/
theorem mgd_fin {K : Nat → Int} {d e1 e2 e3 : Nat → Nat} {a M b : Nat} (h1 : a ≤ M) (h2 : M ≤ b) (f1 : Frm d e1 a b) (hx : ∀ i j, a ≤ i → i < M → M ≤ j → j < b → Ro K (e1 i) (e1 j)) (f2 : Frm e1 e2 a M) (i2 : Inc K e2 a M) (f3 : Frm e2 e3 M b) (i3 : Inc K e3 M b) : Frm d e3 a b ∧ Inc K e3 a b := by
  refine ⟨f1.trans ((f2.wide (Nat.le_refl _) h2).trans (f3.wide h1 (Nat.le_refl _))), (i2.of fun i _ hi => f3.1 i (Or.inl hi)).join i3 fun i j x y z t => ?_⟩
  rw [f3.1 i (Or.inl y)]
  obtain ⟨i', u1, u2, u3⟩ := f2.2 i x y
  obtain ⟨j', v1, v2, v3⟩ := f3.2 j z t
  rw [u3, v3, f2.1 j' (Or.inr v1)]
  exact hx i' j' u1 u2 v1 v2

set_option maxRecDepth 100000 in
set_option maxHeartbeats 8000000 in
theorem symMid_any (W : World) (B n c : Nat) (K : Nat → Int) (g : Nat) (p : Value) (eg : ∀ args w, (callFunc g args).run Tryd.prog w = .ok (.enter g args) w) (hC : CmpK W B n K g p) (N : Nat) (hI : MgdUpto W B n c K g p N) (d : Nat → Nat) (a m b : Nat) (w : World)
    (hN : b ≤ a + (N + 1)) (hS : Sw W B n d w) (ham : a + 1 < m) (hmb : m + 1 < b) (hbn : b ≤ n) (hn : n ≤ 1048576) (hM : Mok K d a m b) (hv : ∀ i, i < n → d i < n) :
    Calls Tryd.prog 46 #[.slice (some ⟨B, 0, none⟩) n c, .int .i64 a, .int .i64 m, .int .i64 b, .func (.func g) #[] #[p]] w fun e w' => e = .returned (.tuple #[]) ∧ Mgd W B n K d a b w' := by
  have HM : Hid (Mok K d a m b) := hM
  have HV : Hid (∀ i, i < n → d i < n) := hv
  have HC : Hid (CmpK W B n K g p) := hC
  have HI : Hid (MgdUpto W B n c K g p N) := hI
  have hm1 : ¬ (m : Int) - (a : Int) = 1 := by omega
  have hm1b : ((m : Int) - (a : Int) == 1) = false := by simpa using hm1
  have hb1 : ¬ (b : Int) - (m : Int) = 1 := by omega
  have hb1b : ((b : Int) - (m : Int) == 1) = false := by simpa using hb1
  obtain ⟨M, hMd⟩ : ∃ M : Nat, ((a : Int) + (b : Int)) / 2 = M := ⟨(a + b) / 2, by omega⟩
  have HMd : Hid ((a + b) / 2 = M) := by show (a + b) / 2 = M; omega
  obtain ⟨S, hSm⟩ : ∃ S : Nat, (M : Int) + (m : Int) = S := ⟨M + m, by omega⟩
  obtain ⟨P, hP⟩ : ∃ P : Nat, (S : Int) - 1 = P := ⟨S - 1, by omega⟩
  clear hM hv hC hI
  go_enter Tryd.func46, Tryd.ntmps46
  go_upto_if 140 with fail
  go_cut [20, 21] (fun u v wx => ∃ lo hi : Nat, u = .int .i64 lo ∧ v = .int .i64 hi ∧ Cutr a m b lo hi ∧ wx = w)
  case first =>
    by_cases hgt : M < m
    · have hgt' : (M : Int) < (m : Int) := by omega
      have HR : Hid (Cutr a m b ((a + b) / 2 + m - b) ((a + b) / 2)) := cutr_hi (by omega) (by rw [HMd.out]; exact hgt)
      have hlo : (S : Int) - (b : Int) = ((M + m - b : Nat) : Int) := by
        have := HR.out.nb; have := HR.out.low; rw [HMd.out] at *; omega
      rw [HMd.out] at HR
      go_wp2_with fail
      go_meet
      case rel => exact ⟨_, _, by first | rfl | go_num, rfl, HR.out, rfl⟩
    · have hgt' : ¬ (M : Int) < (m : Int) := by omega
      have HR : Hid (Cutr a m b a m) := cutr_lo (by omega) (by rw [HMd.out]; exact hgt)
      go_wp2_with fail
      go_meet
      case rel => exact ⟨_, _, rfl, rfl, HR.out, rfl⟩
  case rest =>
    obtain ⟨lo, hi, rfl, rfl, hcr, rfl⟩ := hcut
    have HCR : Hid (Cutr a m b lo hi) := hcr
    obtain ⟨r1, r2, r3, r4, r5, r6, r7⟩ := hcr
    rw [HMd.out] at r4 r5 r6 r7
    clear r6 r7
    go_wp2
    go_loopw [20, 21, 23] (fun u v _ wr => ∃ s r : Nat, u = .int .i64 s ∧ v = .int .i64 r ∧ lo ≤ s ∧ s ≤ r ∧ r ≤ hi ∧ (∀ x, lo ≤ x → x < s → Ro K (d x) (d (P - x))) ∧ (∀ x, r ≤ x → x < hi → Ro K (d (P - x)) (d x)) ∧ Sw W B n d wr) (fun u v _ _ => (intOf v).toNat - (intOf u).toNat)
    case atStart => exact ⟨lo, hi, rfl, rfl, Nat.le_refl _, by omega, Nat.le_refl _, fun x h1 h2 => absurd h2 (by omega), fun x h1 h2 => absurd h2 (by omega), hS⟩
    case round =>
      clear hS
      obtain ⟨s, r, rfl, rfl, hls, hsr, hrh, hlo, hhi, hr⟩ := hrel
      have HLO : Hid (∀ x, lo ≤ x → x < s → Ro K (d x) (d (P - x))) := hlo
      have HHI : Hid (∀ x, r ≤ x → x < hi → Ro K (d (P - x)) (d x)) := hhi
      clear hlo hhi
      by_cases hlt : s < r
      · have hlt' : (s : Int) < (r : Int) := by omega
        obtain ⟨h, hh⟩ : ∃ h : Nat, ((s : Int) + (r : Int)) / 2 = h := ⟨(s + r) / 2, by omega⟩
        have h1 : s ≤ h := by omega
        have h2 : h < r := by omega
        have hhn : h < n := by omega
        obtain ⟨q, hq⟩ : ∃ q, P - h = q := ⟨_, rfl⟩
        have hq1 : m ≤ q := by omega
        have hq2 : q < b := by omega
        have hqn : q < n := by omega
        have hwq : IntKind.i64.wrap ((P : Int) - (h : Int)) = (q : Int) := by rw [IntKind.wrap_i64]; omega
        have Hq : Hid (P - h = q) := hq
        obtain ⟨x, Hx⟩ : ∃ x, Hid (d h = x) := ⟨_, (rfl : d h = _)⟩
        obtain ⟨y, Hy⟩ : ∃ x, Hid (d q = x) := ⟨_, (rfl : d q = _)⟩
        have hx : x < n := by rw [← Hx.out]; exact HV.out h hhn
        have hy : y < n := by rw [← Hy.out]; exact HV.out q hqn
        have HL : Hid (x < y) := by
          show x < y
          rw [← Hx.out, ← Hy.out]; exact HM.out.lt h q (by omega) (by omega) hq1 hq2
        have hR : ∀ w', Sw W B n d w' → w'.cell? ⟨B, q, none⟩ = some (.int .i64 (y : Int)) ∧ w'.cell? ⟨B, h, none⟩ = some (.int .i64 (x : Int)) := fun w' hw => ⟨by rw [hw.row.cell hqn, Hy.out], by rw [hw.row.cell hhn, Hx.out]⟩
        have hhn' : (h : Int) < (n : Int) := by omega
        have hqn' : (q : Int) < (n : Int) := by omega
        clear hq
        by_cases hK : K y < K x
        · have hz : decide (cmz (K y) (K x) < 0) = true := decide_eq_true (cmz_lt hK)
          obtain ⟨z, Hz⟩ : ∃ z, Hid (cmz (K y) (K x) = z) := ⟨_, (rfl : cmz (K y) (K x) = _)⟩
          rw [Hz.out] at hz
          have hz1 : z < 0 := of_decide_eq_true hz
          have HN : Hid (∀ x, h ≤ x → x < hi → Ro K (d (P - x)) (d x)) := fun t h3 h4 =>
            HM.out.above (c := h) (x := t) (n := P) (by omega) h3 (by omega) (by omega) (by rw [Hq.out]; exact hq2) (by rw [Hq.out, Hx.out, Hy.out]; exact ro_gt hK)
          go_wp2
          go_region_held3 (fun w' => Sw W B n d w') (with_reducible (repeat (first | exact hr | refine Sw.drew ?_ | assumption)))
            (first
              | (go_at_fn g; refine (HC.out d _ (by assumption) y x hy hx).mono ?_; rintro _ w4 ⟨rfl, hb4⟩; rw [Hz.out]; refine (fun hq : Sw W B n d w4 => ?_) (Sw.bel (by assumption) hb4)))
          have HQ : Hid (Sw W B n d w4) := hq
          clear hR hr hb4 hq
          go_wp2
          go_roundw
          case rel => exact ⟨s, h, rfl, rfl, hls, h1, by omega, HLO.out, HN.out, HQ.out⟩
          case measure => simp [intOf]; omega
        · have hz : decide (cmz (K y) (K x) < 0) = false := decide_eq_false (cmz_ge hK)
          obtain ⟨z, Hz⟩ : ∃ z, Hid (cmz (K y) (K x) = z) := ⟨_, (rfl : cmz (K y) (K x) = _)⟩
          rw [Hz.out] at hz
          have hz1 : ¬ z < 0 := of_decide_eq_false hz
          have HN : Hid (∀ x, lo ≤ x → x < h + 1 → Ro K (d x) (d (P - x))) := fun t h3 h4 =>
            HM.out.below (c := h) (x := t) (n := P) (by omega) (by omega) (by omega) (by omega) (by omega) (by rw [Hq.out, Hx.out, Hy.out]; exact ro_lt HL.out hK)
          go_wp2
          go_region_held3 (fun w' => Sw W B n d w') (with_reducible (repeat (first | exact hr | refine Sw.drew ?_ | assumption)))
            (first
              | (go_at_fn g; refine (HC.out d _ (by assumption) y x hy hx).mono ?_; rintro _ w4 ⟨rfl, hb4⟩; rw [Hz.out]; refine (fun hq : Sw W B n d w4 => ?_) (Sw.bel (by assumption) hb4)))
          have HQ : Hid (Sw W B n d w4) := hq
          clear hR hr hb4 hq
          go_wp2
          go_roundw
          case rel => exact ⟨h + 1, r, by go_num, rfl, by omega, by omega, hrh, HN.out, HHI.out, HQ.out⟩
          case measure => simp [intOf]; omega
      · obtain rfl : s = r := by omega
        have hlt' : ¬ (s : Int) < (s : Int) := by omega
        obtain ⟨E, hE⟩ : ∃ E : Nat, (S : Int) - (s : Int) = E := ⟨S - s, by omega⟩
        have hP' : M + m - 1 = P := by omega
        have hE' : M + m - s = E := by omega
        have HX := HM.out.cut (by omega) HCR.out hls hrh (by rw [HMd.out, hP']; exact HLO.out) (by rw [HMd.out, hP']; exact HHI.out)
        rw [HMd.out, hE'] at HX
        have hEb : E ≤ b := by omega
        have hmE : m ≤ E := by omega
        have hsm : s ≤ m := by omega
        have has : a ≤ s := by omega
        have hsM : s ≤ M := by omega
        have haM : a < M := by omega
        have hMb : M < b := by omega
        have hME : M ≤ E := by omega
        obtain ⟨e1, He1⟩ : ∃ e, Hid (rot d s m E = e) := ⟨_, (rfl : rot d s m E = _)⟩
        rw [He1.out] at HX
        have HX : Hid _ := HX
        have HV1 : Hid (∀ i, i < n → e1 i < n) := HX.out.2.2.2.vals HV.out hbn
        have hEs : E + s = M + m := by omega
        clear hP' hE' hMd hSm hP r1 r2 r3 r4 r5
        by_cases h1 : s < m
        · by_cases h2 : m < E
          · have h4 : s < M := by omega
            have h5 : M < E := by omega
            have h1' : (s : Int) < (m : Int) := by omega
            have h2' : (m : Int) < (E : Int) := by omega
            have h4' : (s : Int) < (M : Int) := by omega
            have h5' : (M : Int) < (E : Int) := by omega
            by_cases h3 : a < s
            · have h3' : (a : Int) < (s : Int) := by omega
              by_cases h6 : E < b
              · have h6' : (E : Int) < (b : Int) := by omega
                go_wp2_with fail
                refine (rotate_any W B n c d _ s m E _ hr h1 h2 (by omega) hn).mono ?_
                rintro _ w5 ⟨rfl, hr1⟩
                rw [He1.out] at hr1
                go_wp2_with fail
                refine (HI.out e1 a s M _ (by omega) hr1 h3 h4 (by omega) HX.out.1 HV1.out).mono ?_
                rintro _ w6 ⟨rfl, e2, hS2, f2, i2⟩
                have HM2 : Mok K e2 M E b := HX.out.2.1.of (fun i h1 _ => f2.1 i (Or.inr h1)) hME hEb
                have HV2 : ∀ i, i < n → e2 i < n := f2.vals HV1.out (by omega)
                go_wp2_with fail
                refine (HI.out e2 M E b _ (by omega) hS2 h5 h6 hbn HM2 HV2).mono ?_
                rintro _ w7 ⟨rfl, e3, hS3, f3, i3⟩
                have HO : Hid _ := mgd_fin (by omega) (by omega) HX.out.2.2.2 HX.out.2.2.1 f2 i2 f3 i3
                clear f2 i2 f3 i3
                go_wp2
                go_end0
                exact ⟨rfl, e3, hS3, HO.out.1, HO.out.2⟩
              · have h6' : ¬ (E : Int) < (b : Int) := by omega
                go_wp2_with fail
                refine (rotate_any W B n c d _ s m E _ hr h1 h2 (by omega) hn).mono ?_
                rintro _ w5 ⟨rfl, hr1⟩
                rw [He1.out] at hr1
                go_wp2_with fail
                refine (HI.out e1 a s M _ (by omega) hr1 h3 h4 (by omega) HX.out.1 HV1.out).mono ?_
                rintro _ w6 ⟨rfl, e2, hS2, f2, i2⟩
                obtain ⟨e3, hS3, f3, i3⟩ : ∃ e3, Sw W B n e3 w6 ∧ Frm e2 e3 M b ∧ Inc K e3 M b := ⟨e2, hS2, Frm.refl _ _ _, by
                  have HM2 : Mok K e2 M E b := HX.out.2.1.of (fun i h1 _ => f2.1 i (Or.inr h1)) hME hEb
                  have := HM2.one; rwa [show E = b by omega] at this⟩
                have HO : Hid _ := mgd_fin (by omega) (by omega) HX.out.2.2.2 HX.out.2.2.1 f2 i2 f3 i3
                clear f2 i2 f3 i3
                go_wp2
                go_end0
                exact ⟨rfl, e3, hS3, HO.out.1, HO.out.2⟩
            · have h3' : ¬ (a : Int) < (s : Int) := by omega
              by_cases h6 : E < b
              · have h6' : (E : Int) < (b : Int) := by omega
                go_wp2_with fail
                refine (rotate_any W B n c d _ s m E _ hr h1 h2 (by omega) hn).mono ?_
                rintro _ w5 ⟨rfl, hr1⟩
                rw [He1.out] at hr1
                obtain ⟨e2, hS2, f2, i2⟩ : ∃ e2, Sw W B n e2 w5 ∧ Frm e1 e2 a M ∧ Inc K e2 a M := ⟨e1, hr1, Frm.refl _ _ _, by have := HX.out.1.two; rwa [show s = a by omega] at this⟩
                have HM2 : Mok K e2 M E b := HX.out.2.1.of (fun i h1 _ => f2.1 i (Or.inr h1)) hME hEb
                have HV2 : ∀ i, i < n → e2 i < n := f2.vals HV1.out (by omega)
                go_wp2_with fail
                refine (HI.out e2 M E b _ (by omega) hS2 h5 h6 hbn HM2 HV2).mono ?_
                rintro _ w7 ⟨rfl, e3, hS3, f3, i3⟩
                have HO : Hid _ := mgd_fin (by omega) (by omega) HX.out.2.2.2 HX.out.2.2.1 f2 i2 f3 i3
                clear f2 i2 f3 i3
                go_wp2
                go_end0
                exact ⟨rfl, e3, hS3, HO.out.1, HO.out.2⟩
              · have h6' : ¬ (E : Int) < (b : Int) := by omega
                go_wp2_with fail
                refine (rotate_any W B n c d _ s m E _ hr h1 h2 (by omega) hn).mono ?_
                rintro _ w5 ⟨rfl, hr1⟩
                rw [He1.out] at hr1
                obtain ⟨e2, hS2, f2, i2⟩ : ∃ e2, Sw W B n e2 w5 ∧ Frm e1 e2 a M ∧ Inc K e2 a M := ⟨e1, hr1, Frm.refl _ _ _, by have := HX.out.1.two; rwa [show s = a by omega] at this⟩
                obtain ⟨e3, hS3, f3, i3⟩ : ∃ e3, Sw W B n e3 w5 ∧ Frm e2 e3 M b ∧ Inc K e3 M b := ⟨e2, hS2, Frm.refl _ _ _, by
                  have HM2 : Mok K e2 M E b := HX.out.2.1.of (fun i h1 _ => f2.1 i (Or.inr h1)) hME hEb
                  have := HM2.one; rwa [show E = b by omega] at this⟩
                have HO : Hid _ := mgd_fin (by omega) (by omega) HX.out.2.2.2 HX.out.2.2.1 f2 i2 f3 i3
                clear f2 i2 f3 i3
                go_wp2
                go_end0
                exact ⟨rfl, e3, hS3, HO.out.1, HO.out.2⟩
          · have h3 : a < s := by omega
            have h5 : M < E := by omega
            have h6 : E < b := by omega
            have h1' : (s : Int) < (m : Int) := by omega
            have h2' : ¬ (m : Int) < (E : Int) := by omega
            have h3' : (a : Int) < (s : Int) := by omega
            have h4' : ¬ (s : Int) < (M : Int) := by omega
            have h5' : (M : Int) < (E : Int) := by omega
            have h6' : (E : Int) < (b : Int) := by omega
            have ee : e1 = d := by rw [← He1.out, show E = m by omega]; exact rot_b d s m
            have hr1 : Sw W B n e1 wr := by rw [ee]; exact hr
            obtain ⟨e2, hS2, f2, i2⟩ : ∃ e2, Sw W B n e2 wr ∧ Frm e1 e2 a M ∧ Inc K e2 a M := ⟨e1, hr1, Frm.refl _ _ _, by have := HX.out.1.one; rwa [show s = M by omega] at this⟩
            have HM2 : Mok K e2 M E b := HX.out.2.1.of (fun i h1 _ => f2.1 i (Or.inr h1)) hME hEb
            have HV2 : ∀ i, i < n → e2 i < n := f2.vals HV1.out (by omega)
            go_wp2_with fail
            refine (HI.out e2 M E b _ (by omega) hS2 h5 h6 hbn HM2 HV2).mono ?_
            rintro _ w7 ⟨rfl, e3, hS3, f3, i3⟩
            have HO : Hid _ := mgd_fin (by omega) (by omega) HX.out.2.2.2 HX.out.2.2.1 f2 i2 f3 i3
            clear f2 i2 f3 i3
            go_wp2
            go_end0
            exact ⟨rfl, e3, hS3, HO.out.1, HO.out.2⟩
        · have h3 : a < s := by omega
          have h1' : ¬ (s : Int) < (m : Int) := by omega
          have h3' : (a : Int) < (s : Int) := by omega
          have h5' : ¬ (M : Int) < (E : Int) := by omega
          have ee : e1 = d := by rw [← He1.out, show s = m by omega]; exact rot_a d m E
          have hr1 : Sw W B n e1 wr := by rw [ee]; exact hr
          by_cases h4 : s < M
          · have h4' : (s : Int) < (M : Int) := by omega
            go_wp2_with fail
            refine (HI.out e1 a s M _ (by omega) hr1 h3 h4 (by omega) HX.out.1 HV1.out).mono ?_
            rintro _ w6 ⟨rfl, e2, hS2, f2, i2⟩
            obtain ⟨e3, hS3, f3, i3⟩ : ∃ e3, Sw W B n e3 w6 ∧ Frm e2 e3 M b ∧ Inc K e3 M b := ⟨e2, hS2, Frm.refl _ _ _, by
              have HM2 : Mok K e2 M E b := HX.out.2.1.of (fun i h1 _ => f2.1 i (Or.inr h1)) hME hEb
              have := HM2.two; rwa [show E = M by omega] at this⟩
            have HO : Hid _ := mgd_fin (by omega) (by omega) HX.out.2.2.2 HX.out.2.2.1 f2 i2 f3 i3
            clear f2 i2 f3 i3
            go_wp2
            go_end0
            exact ⟨rfl, e3, hS3, HO.out.1, HO.out.2⟩
          · have h4' : ¬ (s : Int) < (M : Int) := by omega
            obtain ⟨e2, hS2, f2, i2⟩ : ∃ e2, Sw W B n e2 wr ∧ Frm e1 e2 a M ∧ Inc K e2 a M := ⟨e1, hr1, Frm.refl _ _ _, by have := HX.out.1.one; rwa [show s = M by omega] at this⟩
            obtain ⟨e3, hS3, f3, i3⟩ : ∃ e3, Sw W B n e3 wr ∧ Frm e2 e3 M b ∧ Inc K e3 M b := ⟨e2, hS2, Frm.refl _ _ _, by
              have HM2 : Mok K e2 M E b := HX.out.2.1.of (fun i h1 _ => f2.1 i (Or.inr h1)) hME hEb
              have := HM2.two; rwa [show E = M by omega] at this⟩
            have HO : Hid _ := mgd_fin (by omega) (by omega) HX.out.2.2.2 HX.out.2.2.1 f2 i2 f3 i3
            clear f2 i2 f3 i3
            go_wp2
            go_end0
            exact ⟨rfl, e3, hS3, HO.out.1, HO.out.2⟩

theorem sym_any (W : World) (B n c : Nat) (K : Nat → Int) (g : Nat) (p : Value) (eg : ∀ args w, (callFunc g args).run Tryd.prog w = .ok (.enter g args) w) (hC : CmpK W B n K g p) (hn : n ≤ 1048576) : ∀ N, MgdUpto W B n c K g p N := by
  intro N
  induction N with
  | zero => intro d a m b w hN _ h1 h2; omega
  | succ N ih =>
    intro d a m b w hN hS ham hmb hbn hM hv
    by_cases e1 : m = a + 1
    · subst e1; exact symUp_any W B n c K g p eg hC d a b w hS hmb hbn hn hM hv
    · by_cases e2 : b = m + 1
      · subst e2; exact symDn_any W B n c K g p eg hC d a m w hS (by omega) hbn hn hM hv
      · exact symMid_any W B n c K g p eg hC N ih d a m b w hN hS (by omega) (by omega) hbn hn hM hv
end Go.Proofs.YtkinpfnelmdmlaaDoor
