/-
  Contract of the library's merging of two runs, at numbers: where one of the two has one number alone.
-/
import Derived.Test.YtkinpfnelmdmlaaDoorSrtB
namespace Go.Proofs.YtkinpfnelmdmlaaDoor
open Go.RowKit Go.Maps Go.Shelf

theorem ro_of {K : Nat → Int} {x y : Nat} (h : x < y) : (¬ K y < K x → Ro K x y) ∧ (K y < K x → Ro K y x) := ⟨ro_lt h, ro_gt⟩

set_option maxRecDepth 100000 in
set_option maxHeartbeats 4000000 in
theorem symUp_any (W : World) (B n c : Nat) (K : Nat → Int) (g : Nat) (p : Value) (eg : ∀ args w, (callFunc g args).run Tryd.prog w = .ok (.enter g args) w) (hC : CmpK W B n K g p) (d : Nat → Nat) (a b : Nat) (w : World)
    (hS : Sw W B n d w) (hab : a + 1 < b) (hbn : b ≤ n) (hn : n ≤ 1048576) (hM : Mok K d a (a + 1) b) (hv : ∀ i, i < n → d i < n) :
    Calls Tryd.prog 46 #[.slice (some ⟨B, 0, none⟩) n c, .int .i64 a, .int .i64 ((a + 1 : Nat) : Int), .int .i64 b, .func (.func g) #[] #[p]] w fun e w' => e = .returned (.tuple #[]) ∧ ∃ d', Sw W B n d' w' ∧ Frm d d' a b ∧ Inc K d' a b := by
  have HM : Hid (Mok K d a (a + 1) b) := hM
  have HV : Hid (∀ i, i < n → d i < n) := hv
  have HC : Hid (CmpK W B n K g p) := hC
  obtain ⟨m, hm⟩ : ∃ m, a + 1 = m := ⟨_, rfl⟩
  have hm1 : (m : Int) - (a : Int) = 1 := by omega
  have HE : Hid (a + 1 = m) := hm
  rw [hm] at hab ⊢
  have han : a < n := by omega
  obtain ⟨y, Hy⟩ : ∃ x, Hid (d a = x) := ⟨_, (rfl : d a = _)⟩
  have hy : y < n := by rw [← Hy.out]; exact HV.out a han
  have ham : a < m := by omega
  clear hM hv hC hm
  go_enter Tryd.func46, Tryd.ntmps46
  go_wp2
  go_loopw [10, 11, 12] (fun u v _ wr => ∃ i j : Nat, u = .int .i64 i ∧ v = .int .i64 j ∧ m ≤ i ∧ i ≤ j ∧ j ≤ b ∧ (∀ x, a + 1 ≤ x → x < i → Ro K (d x) (d a)) ∧ (∀ x, j ≤ x → x < b → Ro K (d a) (d x)) ∧ Sw W B n d wr) (fun u v _ _ => (intOf v).toNat - (intOf u).toNat)
  case atStart => exact ⟨m, b, rfl, rfl, Nat.le_refl _, by omega, Nat.le_refl _, fun x h1 h2 => absurd h2 (by have := HE.out; omega), fun x h1 h2 => absurd h2 (by omega), hS⟩
  case round =>
    clear hS
    obtain ⟨i, j, rfl, rfl, hmi, hij, hjb, hlo, hhi, hr⟩ := hrel
    have HLO : Hid (∀ x, a + 1 ≤ x → x < i → Ro K (d x) (d a)) := hlo
    have HHI : Hid (∀ x, j ≤ x → x < b → Ro K (d a) (d x)) := hhi
    clear hlo hhi
    by_cases hlt : i < j
    · have hlt' : (i : Int) < (j : Int) := by omega
      obtain ⟨h, hh⟩ : ∃ h : Nat, ((i : Int) + (j : Int)) / 2 = h := ⟨(i + j) / 2, by omega⟩
      have h1 : i ≤ h := by omega
      have h2 : h < j := by omega
      have hhn : h < n := by omega
      obtain ⟨x, Hx⟩ : ∃ x, Hid (d h = x) := ⟨_, (rfl : d h = _)⟩
      have hx : x < n := by rw [← Hx.out]; exact HV.out h hhn
      have HL : Hid (y < x) := by
        show y < x
        rw [← Hx.out, ← Hy.out]; exact HM.out.lt a h (Nat.le_refl _) (Nat.lt_succ_self _) (by have := HE.out; omega) (by omega)
      have hR : ∀ w', Sw W B n d w' → w'.cell? ⟨B, h, none⟩ = some (.int .i64 (x : Int)) ∧ w'.cell? ⟨B, a, none⟩ = some (.int .i64 (y : Int)) := fun w' hq => ⟨by rw [hq.row.cell hhn, Hx.out], by rw [hq.row.cell han, Hy.out]⟩
      have hhn' : (h : Int) < (n : Int) := by omega
      have han' : (a : Int) < (n : Int) := by omega
      by_cases hK : K x < K y
      · have hz : cmz (K x) (K y) < 0 := cmz_lt hK
        obtain ⟨z, Hz⟩ : ∃ z, Hid (cmz (K x) (K y) = z) := ⟨_, (rfl : cmz (K x) (K y) = _)⟩
        rw [Hz.out] at hz
        have HN : Hid (∀ x, a + 1 ≤ x → x < h + 1 → Ro K (d x) (d a)) := fun q h3 h4 => by
          have hro : Ro K (d h) (d a) := by rw [Hx.out, Hy.out]; exact ro_gt hK
          rcases HM.out.two.le h3 (show q ≤ h by omega) (by omega) with e | e
          · subst e; exact hro
          · exact e.trans hro
        go_wp2
        go_region_held3 (fun w' => Sw W B n d w') (with_reducible (repeat (first | exact hr | refine Sw.drew ?_ | assumption)))
          (first
            | (go_at_fn g; refine (HC.out d _ (by assumption) x y hx hy).mono ?_; rintro _ w4 ⟨rfl, hb4⟩; rw [Hz.out]; refine (fun hq : Sw W B n d w4 => ?_) (Sw.bel (by assumption) hb4)))
        have HQ : Hid (Sw W B n d w4) := hq
        clear hR hr hb4 hq
        go_wp2
        go_roundw
        case rel => exact ⟨h + 1, j, by go_num, rfl, by omega, by omega, hjb, HN.out, HHI.out, HQ.out⟩
        case measure => simp [intOf]; omega
      · have hz : ¬ cmz (K x) (K y) < 0 := cmz_ge hK
        obtain ⟨z, Hz⟩ : ∃ z, Hid (cmz (K x) (K y) = z) := ⟨_, (rfl : cmz (K x) (K y) = _)⟩
        rw [Hz.out] at hz
        have HN : Hid (∀ x, h ≤ x → x < b → Ro K (d a) (d x)) := fun q h3 h4 => by
          have hro : Ro K (d a) (d h) := by rw [Hx.out, Hy.out]; exact ro_lt HL.out hK
          rcases HM.out.two.le (show a + 1 ≤ h by have := HE.out; omega) h3 h4 with e | e
          · subst e; exact hro
          · exact hro.trans e
        go_wp2
        go_region_held3 (fun w' => Sw W B n d w') (with_reducible (repeat (first | exact hr | refine Sw.drew ?_ | assumption)))
          (first
            | (go_at_fn g; refine (HC.out d _ (by assumption) x y hx hy).mono ?_; rintro _ w4 ⟨rfl, hb4⟩; rw [Hz.out]; refine (fun hq : Sw W B n d w4 => ?_) (Sw.bel (by assumption) hb4)))
        have HQ : Hid (Sw W B n d w4) := hq
        clear hR hr hb4 hq
        go_wp2
        go_roundw
        case rel => exact ⟨i, h, rfl, rfl, hmi, h1, by omega, HLO.out, HN.out, HQ.out⟩
        case measure => simp [intOf]; omega
    · obtain rfl : i = j := by omega
      have hlt' : ¬ (i : Int) < (i : Int) := by omega
      have HO : Hid (Frm d (rot d a (a + 1) i) a b ∧ Inc K (rot d a (a + 1) i) a b) := ⟨(Frm.rot d (Nat.le_succ _) (by have := HE.out; omega)).wide (Nat.le_refl _) hjb, HM.out.up (by have := HE.out; omega) hjb HLO.out HHI.out⟩
      obtain ⟨ip, rfl⟩ : ∃ ip, i = ip + 1 := ⟨i - 1, by omega⟩
      go_wp2
      obtain ⟨wo, ho⟩ : ∃ V : World, V = wr := ⟨wr, rfl⟩
      subst ho
      go_loopw [13] (fun v wr => ∃ k : Nat, v = .int .i64 k ∧ a ≤ k ∧ k ≤ ip ∧ Sw W B n (rot d a (a + 1) (k + 1)) wr) (fun v _ => ip - (intOf v).toNat)
      case atStart => exact ⟨a, rfl, Nat.le_refl _, by omega, by rw [rot_b]; exact hr⟩
      case round =>
        clear hr
        obtain ⟨k, rfl, hak, hki, hr⟩ := hrel
        by_cases hkl : k < ip
        · have hkl' : (k : Int) < (ip : Int) := by omega
          have HS : Hid (swp (rot d a (a + 1) (k + 1)) k (k + 1) = rot d a (a + 1) (k + 1 + 1)) := rot_up d a k hak
          obtain ⟨e, He⟩ : ∃ e, Hid (rot d a (a + 1) (k + 1) = e) := ⟨_, (rfl : rot d a (a + 1) (k + 1) = _)⟩
          rw [He.out] at HS hr
          obtain ⟨k1, hk1⟩ : ∃ k1, k1 = k + 1 := ⟨_, rfl⟩
          have HK1 : Hid (k1 = k + 1) := hk1
          rw [← hk1] at HS
          have hwk : IntKind.i64.wrap ((k : Int) + 1) = (k1 : Int) := by rw [IntKind.wrap_i64]; omega
          have hkn : k < n := by omega
          have hk1n : k1 < n := by omega
          have HR : Hid (Sw W B n e wr) := hr
          have cx := hr.row.cell hkn
          have cy := hr.row.cell hk1n
          obtain ⟨x, Hx⟩ : ∃ x, Hid (e k = x) := ⟨_, (rfl : e k = _)⟩
          obtain ⟨z, Hz⟩ : ∃ x, Hid (e k1 = x) := ⟨_, (rfl : e k1 = _)⟩
          simp only [Hx.out, Hz.out] at cx cy
          have fx := hr.row.frozen k
          have fy := hr.row.frozen k1
          have hB := hr.row.lt
          have hne : k ≠ k1 := by omega
          have hne' : k1 ≠ k := by omega
          have hkn' : (k : Int) < (n : Int) := by omega
          have hk1n' : (k1 : Int) < (n : Int) := by omega
          clear hk1 hr
          go_wp2
          go_big_region
          obtain ⟨V, HV'⟩ : ∃ V : World, Hid (V = ((wr.setCell ⟨B, k, none⟩ (.int .i64 (z : Int))).setCell ⟨B, k1, none⟩ (.int .i64 (x : Int))).drew) := ⟨_, (rfl : ((wr.setCell ⟨B, k, none⟩ (.int .i64 (z : Int))).setCell ⟨B, k1, none⟩ (.int .i64 (x : Int))).drew = _)⟩
          have HN : Hid (Sw W B n (rot d a (a + 1) (k1 + 1)) V) := by
            have := (HR.out.swp hne).drew
            rw [HS.out, Hx.out, Hz.out, HK1.out] at this
            rw [HV'.out, HK1.out]; exact this
          rw [← HV'.out]
          clear cx cy fx fy hB
          go_wp2
          go_roundw
          case rel => exact ⟨k1, rfl, by have := HK1.out; omega, by have := HK1.out; omega, HN.out⟩
          case measure => have := HK1.out; simp [intOf]; omega
        · obtain rfl : k = ip := by omega
          have hkl' : ¬ (k : Int) < (k : Int) := by omega
          go_wp2
          (try simp only [Exit.inBlock, Exit.then]); refine bodyPost_ret (results_none rfl _ _ _) rfl ?_
          exact ⟨rfl, _, hr, HO.out.1, HO.out.2⟩

set_option maxRecDepth 100000 in
set_option maxHeartbeats 4000000 in
theorem symDn_any (W : World) (B n c : Nat) (K : Nat → Int) (g : Nat) (p : Value) (eg : ∀ args w, (callFunc g args).run Tryd.prog w = .ok (.enter g args) w) (hC : CmpK W B n K g p) (d : Nat → Nat) (a m : Nat) (w : World)
    (hS : Sw W B n d w) (ham : a + 1 < m) (hbn : m + 1 ≤ n) (hn : n ≤ 1048576) (hM : Mok K d a m (m + 1)) (hv : ∀ i, i < n → d i < n) :
    Calls Tryd.prog 46 #[.slice (some ⟨B, 0, none⟩) n c, .int .i64 a, .int .i64 m, .int .i64 ((m + 1 : Nat) : Int), .func (.func g) #[] #[p]] w fun e w' => e = .returned (.tuple #[]) ∧ ∃ d', Sw W B n d' w' ∧ Frm d d' a (m + 1) ∧ Inc K d' a (m + 1) := by
  have HM : Hid (Mok K d a m (m + 1)) := hM
  have HV : Hid (∀ i, i < n → d i < n) := hv
  have HC : Hid (CmpK W B n K g p) := hC
  obtain ⟨b, hb⟩ : ∃ b, m + 1 = b := ⟨_, rfl⟩
  have hb1 : (b : Int) - (m : Int) = 1 := by omega
  have hm1 : ¬ (m : Int) - (a : Int) = 1 := by omega
  have hm1b : ((m : Int) - (a : Int) == 1) = false := by simpa using hm1
  have HE : Hid (m + 1 = b) := hb
  have hmn : m < n := by omega
  obtain ⟨y, Hy⟩ : ∃ x, Hid (d m = x) := ⟨_, (rfl : d m = _)⟩
  have hy : y < n := by rw [← Hy.out]; exact HV.out m hmn
  rw [hb]
  clear hM hv hC hb
  go_enter Tryd.func46, Tryd.ntmps46
  go_wp2
  go_loopw [14, 15, 16] (fun u v _ wr => ∃ i j : Nat, u = .int .i64 i ∧ v = .int .i64 j ∧ a ≤ i ∧ i ≤ j ∧ j ≤ m ∧ (∀ x, a ≤ x → x < i → Ro K (d x) (d m)) ∧ (∀ x, j ≤ x → x < m → Ro K (d m) (d x)) ∧ Sw W B n d wr) (fun u v _ _ => (intOf v).toNat - (intOf u).toNat)
  case atStart => exact ⟨a, m, rfl, rfl, Nat.le_refl _, by omega, Nat.le_refl _, fun x h1 h2 => absurd h2 (by omega), fun x h1 h2 => absurd h2 (by omega), hS⟩
  case round =>
    clear hS
    obtain ⟨i, j, rfl, rfl, hmi, hij, hjb, hlo, hhi, hr⟩ := hrel
    have HLO : Hid (∀ x, a ≤ x → x < i → Ro K (d x) (d m)) := hlo
    have HHI : Hid (∀ x, j ≤ x → x < m → Ro K (d m) (d x)) := hhi
    clear hlo hhi
    by_cases hlt : i < j
    · have hlt' : (i : Int) < (j : Int) := by omega
      obtain ⟨h, hh⟩ : ∃ h : Nat, ((i : Int) + (j : Int)) / 2 = h := ⟨(i + j) / 2, by omega⟩
      have h1 : i ≤ h := by omega
      have h2 : h < j := by omega
      have hhn : h < n := by omega
      obtain ⟨x, Hx⟩ : ∃ x, Hid (d h = x) := ⟨_, (rfl : d h = _)⟩
      have hx : x < n := by rw [← Hx.out]; exact HV.out h hhn
      have HL : Hid (x < y) := by
        show x < y
        rw [← Hx.out, ← Hy.out]; exact HM.out.lt h m (by omega) (by omega) (Nat.le_refl _) (Nat.lt_succ_self _)
      have hR : ∀ w', Sw W B n d w' → w'.cell? ⟨B, m, none⟩ = some (.int .i64 (y : Int)) ∧ w'.cell? ⟨B, h, none⟩ = some (.int .i64 (x : Int)) := fun w' hq => ⟨by rw [hq.row.cell hmn, Hy.out], by rw [hq.row.cell hhn, Hx.out]⟩
      have hhn' : (h : Int) < (n : Int) := by omega
      have hmn' : (m : Int) < (n : Int) := by omega
      by_cases hK : K y < K x
      · have hz : decide (cmz (K y) (K x) < 0) = true := decide_eq_true (cmz_lt hK)
        obtain ⟨z, Hz⟩ : ∃ z, Hid (cmz (K y) (K x) = z) := ⟨_, (rfl : cmz (K y) (K x) = _)⟩
        rw [Hz.out] at hz
        have hz1 : z < 0 := of_decide_eq_true hz
        have HN : Hid (∀ x, h ≤ x → x < m → Ro K (d m) (d x)) := fun q h3 h4 => by
          have hro : Ro K (d m) (d h) := by rw [Hx.out, Hy.out]; exact ro_gt hK
          rcases HM.out.one.le (show a ≤ h by omega) h3 h4 with e | e
          · subst e; exact hro
          · exact hro.trans e
        go_wp2
        go_region_held3 (fun w' => Sw W B n d w') (with_reducible (repeat (first | exact hr | refine Sw.drew ?_ | assumption)))
          (first
            | (go_at_fn g; refine (HC.out d _ (by assumption) y x hy hx).mono ?_; rintro _ w4 ⟨rfl, hb4⟩; rw [Hz.out]; refine (fun hq : Sw W B n d w4 => ?_) (Sw.bel (by assumption) hb4)))
        have HQ : Hid (Sw W B n d w4) := hq
        clear hR hr hb4 hq
        go_wp2
        go_roundw
        case rel => exact ⟨i, h, rfl, rfl, hmi, h1, by omega, HLO.out, HN.out, HQ.out⟩
        case measure => simp [intOf]; omega
      · have hz : decide (cmz (K y) (K x) < 0) = false := decide_eq_false (cmz_ge hK)
        obtain ⟨z, Hz⟩ : ∃ z, Hid (cmz (K y) (K x) = z) := ⟨_, (rfl : cmz (K y) (K x) = _)⟩
        rw [Hz.out] at hz
        have hz1 : ¬ z < 0 := of_decide_eq_false hz
        have HN : Hid (∀ x, a ≤ x → x < h + 1 → Ro K (d x) (d m)) := fun q h3 h4 => by
          have hro : Ro K (d h) (d m) := by rw [Hx.out, Hy.out]; exact ro_lt HL.out hK
          rcases HM.out.one.le h3 (show q ≤ h by omega) (by omega) with e | e
          · subst e; exact hro
          · exact e.trans hro
        go_wp2
        go_region_held3 (fun w' => Sw W B n d w') (with_reducible (repeat (first | exact hr | refine Sw.drew ?_ | assumption)))
          (first
            | (go_at_fn g; refine (HC.out d _ (by assumption) y x hy hx).mono ?_; rintro _ w4 ⟨rfl, hb4⟩; rw [Hz.out]; refine (fun hq : Sw W B n d w4 => ?_) (Sw.bel (by assumption) hb4)))
        have HQ : Hid (Sw W B n d w4) := hq
        clear hR hr hb4 hq
        go_wp2
        go_roundw
        case rel => exact ⟨h + 1, j, by go_num, rfl, by omega, by omega, hjb, HN.out, HHI.out, HQ.out⟩
        case measure => simp [intOf]; omega
    · obtain rfl : i = j := by omega
      have hlt' : ¬ (i : Int) < (i : Int) := by omega
      have HO : Hid (Frm d (rot d i m (m + 1)) a (m + 1) ∧ Inc K (rot d i m (m + 1)) a (m + 1)) := ⟨(Frm.rot d hjb (Nat.le_succ _)).wide hmi (Nat.le_refl _), HM.out.dn hmi hjb HLO.out HHI.out⟩
      go_wp2
      obtain ⟨wo, ho⟩ : ∃ V : World, V = wr := ⟨wr, rfl⟩
      subst ho
      go_loopw [17] (fun v wr => ∃ k : Nat, v = .int .i64 k ∧ i ≤ k ∧ k ≤ m ∧ Sw W B n (rot d k m (m + 1)) wr) (fun v _ => (intOf v).toNat)
      case atStart => exact ⟨m, rfl, by omega, Nat.le_refl _, by rw [rot_a]; exact hr⟩
      case round =>
        clear hr
        obtain ⟨k, rfl, hak, hki, hr⟩ := hrel
        by_cases hkl : i < k
        · obtain ⟨q, rfl⟩ : ∃ q, k = q + 1 := ⟨k - 1, by omega⟩
          have HS : Hid (swp (rot d (q + 1) m (m + 1)) (q + 1) q = rot d q m (m + 1)) := rot_dn d m q hki
          obtain ⟨e, He⟩ : ∃ e, Hid (rot d (q + 1) m (m + 1) = e) := ⟨_, (rfl : rot d (q + 1) m (m + 1) = _)⟩
          rw [He.out] at HS hr
          obtain ⟨k1, hk1⟩ : ∃ k1, k1 = q + 1 := ⟨_, rfl⟩
          have HK1 : Hid (k1 = q + 1) := hk1
          rw [← hk1] at HS hkl
          have hcast : ((q + 1 : Nat) : Int) = (k1 : Int) := by omega
          rw [hcast]
          have hkl' : (i : Int) < (k1 : Int) := by omega
          have hwk : IntKind.i64.wrap ((k1 : Int) - 1) = (q : Int) := by rw [IntKind.wrap_i64]; omega
          have hqi : (k1 : Int) - 1 = (q : Int) := by omega
          have hkn : k1 < n := by omega
          have hqn : q < n := by omega
          have HR : Hid (Sw W B n e wr) := hr
          have cx := hr.row.cell hkn
          have cy := hr.row.cell hqn
          obtain ⟨x, Hx⟩ : ∃ x, Hid (e k1 = x) := ⟨_, (rfl : e k1 = _)⟩
          obtain ⟨z, Hz⟩ : ∃ x, Hid (e q = x) := ⟨_, (rfl : e q = _)⟩
          simp only [Hx.out, Hz.out] at cx cy
          have fx := hr.row.frozen k1
          have fy := hr.row.frozen q
          have hB := hr.row.lt
          have hne : k1 ≠ q := by omega
          have hne' : q ≠ k1 := by omega
          have hkn' : (k1 : Int) < (n : Int) := by omega
          have hqn' : (q : Int) < (n : Int) := by omega
          clear hk1 hr hcast
          go_wp2
          go_big_region
          obtain ⟨V, HV'⟩ : ∃ V : World, Hid (V = ((wr.setCell ⟨B, k1, none⟩ (.int .i64 (z : Int))).setCell ⟨B, q, none⟩ (.int .i64 (x : Int))).drew) := ⟨_, (rfl : ((wr.setCell ⟨B, k1, none⟩ (.int .i64 (z : Int))).setCell ⟨B, q, none⟩ (.int .i64 (x : Int))).drew = _)⟩
          have HN : Hid (Sw W B n (rot d q m (m + 1)) V) := by
            have := (HR.out.swp hne).drew
            rw [HS.out, Hx.out, Hz.out] at this
            rw [HV'.out]; exact this
          rw [← HV'.out]
          clear cx cy fx fy hB
          go_wp2
          go_roundw
          case rel => exact ⟨q, rfl, by have := HK1.out; omega, by omega, HN.out⟩
          case measure => have := HK1.out; simp [intOf]; omega
        · obtain rfl : i = k := by omega
          have hkl' : ¬ (i : Int) < (i : Int) := by omega
          have HEq := HE.out
          go_wp2
          (try simp only [Exit.inBlock, Exit.then]); refine bodyPost_ret (results_none rfl _ _ _) rfl ?_
          rw [← HEq]
          exact ⟨rfl, _, hr, HO.out.1, HO.out.2⟩
end Go.Proofs.YtkinpfnelmdmlaaDoor
