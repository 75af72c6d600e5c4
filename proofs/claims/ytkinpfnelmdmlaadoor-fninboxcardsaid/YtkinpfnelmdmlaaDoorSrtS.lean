/-
  Contract of the library's stable sort at numbers: the row of all numbers below n comes out ordered by their keys, of the same keys the first first.
-/
import Derived.Test.YtkinpfnelmdmlaaDoorSrtM
namespace Go.Proofs.YtkinpfnelmdmlaaDoor
open Go.RowKit Go.Maps Go.Shelf

set_option maxRecDepth 100000 in
set_option maxHeartbeats 8000000 in
theorem stable_any (W : World) (B n c : Nat) (K : Nat → Int) (g : Nat) (p : Value) (eg : ∀ args w, (callFunc g args).run Tryd.prog w = .ok (.enter g args) w) (hC : CmpK W B n K g p) (w : World)
    (hS : Sw W B n (fun i => i) w) (hn : n ≤ 1048576) :
    Calls Tryd.prog 42 #[.slice (some ⟨B, 0, none⟩) n c, .int .i64 n, .func (.func g) #[] #[p]] w fun e w' => e = .returned (.tuple #[]) ∧ ∃ d', Sw W B n d' w' ∧ Bk K d' 0 n := by
  have HC : Hid (CmpK W B n K g p) := hC
  have HY : Hid (∀ N, MgdUpto W B n c K g p N) := sym_any W B n c K g p eg hC hn
  clear hC
  go_enter Tryd.func42, Tryd.ntmps42
  go_wp2
  go_loopw [7, 8] (fun u v wr => ∃ (q a : Nat) (e : Nat → Nat), u = .int .i64 a ∧ v = .int .i64 ((a + 20 : Nat) : Int) ∧ a = 20 * q ∧ a ≤ n ∧ Fst K e q ∧ Sw W B n e wr ∧ ∀ i, i < n → e i < n) (fun u _ _ => n + 20 - (intOf u).toNat)
  case atStart => exact ⟨0, 0, _, rfl, rfl, rfl, Nat.zero_le _, ⟨fun k hk => absurd hk (Nat.not_lt_zero _), fun _ _ => rfl⟩, hS, fun _ h => h⟩
  case round =>
    clear hS
    obtain ⟨q, a, e, rfl, rfl, haq, han, hF, hr, hv⟩ := hrel
    have HA : Hid (a = 20 * q) := haq
    have HF : Hid (Fst K e q) := hF
    have HV : Hid (∀ i, i < n → e i < n) := hv
    clear haq hF hv
    by_cases hle : a + 20 ≤ n
    · have hle' : (a : Int) + 20 ≤ (n : Int) := by omega
      obtain ⟨b, hb⟩ : ∃ b, a + 20 = b := ⟨_, rfl⟩
      have HB : Hid (a + 20 = b) := hb
      have hbi : (a : Int) + 20 = (b : Int) := by omega
      have cS := insSort_any W B n c K g p eg HC.out e a b wr hr (by omega) (by omega) hn (fun i j h1 h2 _ => HF.out.asc i j (by have := HA.out; omega) h2) HV.out
      rw [hb]
      clear hb
      go_wp2_with fail
      refine cS.mono ?_
      rintro _ w1 ⟨rfl, e1, S1, f1, i1⟩
      have HN : Hid (Fst K e1 (q + 1)) := by
        have hA := HA.out
        have hB := HB.out
        subst hB; subst hA
        exact HF.out.step f1 i1
      have HV1 : Hid (∀ i, i < n → e1 i < n) := f1.vals HV.out (by have := HB.out; omega)
      clear cS f1 i1
      go_wp2
      go_roundw
      case rel => exact ⟨q + 1, b, e1, rfl, by go_num, by have := HA.out; have := HB.out; omega, by have := HB.out; omega, HN.out, S1, HV1.out⟩
      case measure => have := HB.out; simp [intOf]; omega
    · have hle' : ¬ (a : Int) + 20 ≤ (n : Int) := by omega
      have cS := insSort_any W B n c K g p eg HC.out e a n wr hr han (Nat.le_refl _) hn (fun i j h1 h2 _ => HF.out.asc i j (by have := HA.out; omega) h2) HV.out
      go_wp2_with fail
      refine cS.mono ?_
      rintro _ w1 ⟨rfl, e1, S1, f1, i1⟩
      have HN : Hid (Lvl K e1 n 20) := by
        have hA := HA.out
        subst hA
        exact HF.out.lvl han (by omega) f1 i1
      have HV1 : Hid (∀ i, i < n → e1 i < n) := f1.vals HV.out (Nat.le_refl _)
      clear cS f1 i1 hr
      go_wp2
      go_loopw [6, 7, 8, 9] (fun u _ _ _ wr => ∃ (s : Nat) (e : Nat → Nat), u = .int .i64 s ∧ 20 ≤ s ∧ s ≤ 2 * n + 20 ∧ Lvl K e n s ∧ Sw W B n e wr ∧ ∀ i, i < n → e i < n) (fun u _ _ _ _ => n - (intOf u).toNat)
      case atStart => exact ⟨20, e1, rfl, Nat.le_refl _, by omega, HN.out, S1, HV1.out⟩
      case round =>
        clear HN HV1 S1 HF HV HA hle hle'
        obtain ⟨s, e2, rfl, hs20, hs2, hL, hr, hv⟩ := hrel
        have HL : Hid (Lvl K e2 n s) := hL
        have HV : Hid (∀ i, i < n → e2 i < n) := hv
        clear hL hv
        by_cases hsn : s < n
        · have hsn' : (s : Int) < (n : Int) := by omega
          go_wp2
          obtain ⟨wo, ho⟩ : ∃ V : World, V = wr := ⟨wr, rfl⟩
          subst ho
          go_loopw [7, 8] (fun u v wr => ∃ (q a : Nat) (e : Nat → Nat), u = .int .i64 a ∧ v = .int .i64 ((a + 2 * s : Nat) : Int) ∧ a = 2 * s * q ∧ a ≤ n ∧ Mdl K e n s q ∧ Sw W B n e wr ∧ ∀ i, i < n → e i < n) (fun u _ _ => n - (intOf u).toNat)
          case atStart => exact ⟨0, 0, e2, rfl, by go_num, by rw [Nat.mul_zero], Nat.zero_le _, HL.out.mdl, hr, HV.out⟩
          case round =>
            clear hr HL HV
            obtain ⟨q, a, e, rfl, rfl, haq, han, hM, hr, hv⟩ := hrel
            have HA : Hid (a = 2 * s * q) := haq
            have HM : Hid (Mdl K e n s q) := hM
            have HV : Hid (∀ i, i < n → e i < n) := hv
            clear haq hM hv
            by_cases hle : a + 2 * s ≤ n
            · obtain ⟨b, hb⟩ : ∃ b, a + 2 * s = b := ⟨_, rfl⟩
              obtain ⟨m, hm⟩ : ∃ m, a + s = m := ⟨_, rfl⟩
              have HB : Hid (a + 2 * s = b) := hb
              have HMm : Hid (a + s = m) := hm
              have hmi : (a : Int) + (s : Int) = (m : Int) := by omega
              have hbn : (b : Int) ≤ (n : Int) := by omega
              have hmin : b = min (a + 2 * s) n := by rw [Nat.min_eq_left hle]; exact hb.symm
              have b1 := HM.out.one HA.out (show a + s ≤ n by omega)
              have b2 := HM.out.two HA.out hmin
              rw [hm] at b1 b2
              have cS := HY.out n e a m b wr (by omega) hr (by omega) (by omega) (by omega) (b1.mok b2) HV.out
              have Hmin : Hid (b = min (a + 2 * s) n) := hmin
              rw [hb]
              clear hb hm b1 b2 hmin
              go_wp2_with fail
              refine cS.mono ?_
              rintro _ w3 ⟨rfl, e3, S3, f3, i3⟩
              have HN : Hid (Mdl K e3 n s (q + 1)) := HM.out.step HA.out Hmin.out (by have := HMm.out; have := HB.out; omega) f3 i3
              have HV1 : Hid (∀ i, i < n → e3 i < n) := f3.vals HV.out (by have := HB.out; omega)
              have HE : Hid (b = 2 * s * (q + 1)) := by show b = _; rw [Nat.mul_add, Nat.mul_one, ← HA.out]; exact HB.out.symm
              clear cS f3 i3 hr
              go_wp2
              go_roundw
              case rel => exact ⟨q + 1, b, e3, rfl, by go_num, HE.out, by have := HB.out; omega, HN.out, S3, HV1.out⟩
              case measure => have := HB.out; simp [intOf]; omega
            · have hle' : ¬ (a : Int) + 2 * (s : Int) ≤ (n : Int) := by omega
              obtain ⟨m, hm⟩ : ∃ m, a + s = m := ⟨_, rfl⟩
              have HMm : Hid (a + s = m) := hm
              have hmi : (a : Int) + (s : Int) = (m : Int) := by omega
              by_cases hmn : m < n
              · have hmn' : (m : Int) < (n : Int) := by omega
                have hmin : n = min (a + 2 * s) n := by rw [Nat.min_eq_right (by omega)]
                have b1 := HM.out.one HA.out (show a + s ≤ n by omega)
                have b2 := HM.out.two HA.out hmin
                rw [hm] at b1 b2
                have cS := HY.out n e a m n wr (by omega) hr (by omega) (by omega) (Nat.le_refl _) (b1.mok b2) HV.out
                have Hmin : Hid (n = min (a + 2 * s) n) := hmin
                clear hm b1 b2 hmin
                go_wp2_with fail
                refine cS.mono ?_
                rintro _ w3 ⟨rfl, e3, S3, f3, i3⟩
                have HN : Hid (Lvl K e3 n (2 * s)) := (HM.out.step HA.out Hmin.out (by have := HMm.out; omega) f3 i3).last HA.out (by omega)
                have HV1 : Hid (∀ i, i < n → e3 i < n) := f3.vals HV.out (Nat.le_refl _)
                clear cS f3 i3 hr
                go_wp2
                go_roundw
                case rel => exact ⟨2 * s, e3, by go_num, by omega, by omega, HN.out, S3, HV1.out⟩
                case measure => simp [intOf]; omega
              · have hmn' : ¬ (m : Int) < (n : Int) := by omega
                have HN : Hid (Lvl K e n (2 * s)) := HM.out.lvl HA.out (by omega)
                clear hm
                go_wp2
                go_roundw
                case rel => exact ⟨2 * s, e, by go_num, by omega, by omega, HN.out, hr, HV.out⟩
                case measure => simp [intOf]; omega
        · have hsn' : ¬ (s : Int) < (n : Int) := by omega
          have HO : Hid (Bk K e2 0 n) := HL.out.all (by omega)
          go_wp2
          go_end0
          exact ⟨rfl, e2, hr, HO.out⟩

set_option maxHeartbeats 1000000 in
theorem sortStable_any (W : World) (B n c : Nat) (K : Nat → Int) (g : Nat) (p : Value) (eg : ∀ args w, (callFunc g args).run Tryd.prog w = .ok (.enter g args) w) (hC : CmpK W B n K g p) (w : World)
    (hS : Sw W B n (fun i => i) w) (hn : n ≤ 1048576) :
    Calls Tryd.prog 35 #[.slice (some ⟨B, 0, none⟩) n c, .func (.func g) #[] #[p]] w fun e w' => e = .returned (.tuple #[]) ∧ ∃ d', Sw W B n d' w' ∧ Bk K d' 0 n := by
  go_enter Tryd.func35, Tryd.ntmps35
  go_wp2_with fail
  refine (stable_any W B n c K g p eg hC _ hS hn).mono ?_
  rintro _ w1 ⟨rfl, h1⟩
  go_wp2
  go_end0
  exact ⟨rfl, h1⟩
end Go.Proofs.YtkinpfnelmdmlaaDoor
