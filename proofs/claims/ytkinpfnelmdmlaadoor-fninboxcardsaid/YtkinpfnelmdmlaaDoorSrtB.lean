/-
  Contract of the library's insertion sort at numbers, by keys that a function value compares.
-/
import Derived.Test.YtkinpfnelmdmlaaDoorSrtA
import Derived.Shelf.Abstract
namespace Go.Proofs.YtkinpfnelmdmlaaDoor
open Go.RowKit Go.Maps Go.Shelf

/-- How two keys compare. -/
def cmz (x y : Int) : Int := if x < y then -1 else if y < x then 1 else 0
theorem cmz_lt {x y : Int} (h : x < y) : cmz x y < 0 := by unfold cmz; rw [if_pos h]; decide
theorem cmz_ge {x y : Int} (h : ¬ x < y) : ¬ cmz x y < 0 := by unfold cmz; rw [if_neg h]; split <;> decide
/-- What is asked of the function value: it compares the keys of two numbers and writes nothing. -/
def CmpK (W : World) (B n : Nat) (K : Nat → Int) (g : Nat) (p : Value) : Prop := ∀ (d : Nat → Nat) (w : World), Sw W B n d w → ∀ x y : Nat, x < n → y < n →
  Calls Tryd.prog g #[.int .i64 x, .int .i64 y, p] w fun e w' => e = .returned (.int .i64 (cmz (K x) (K y))) ∧ Bel w w'
theorem Frm.vals {d e : Nat → Nat} {a b n : Nat} (h : Frm d e a b) (hv : ∀ i, i < n → d i < n) (hb : b ≤ n) : ∀ i, i < n → e i < n := by
  intro i hi
  by_cases c : a ≤ i ∧ i < b
  · obtain ⟨j, _, j2, j3⟩ := h.2 i c.1 c.2
    rw [j3]; exact hv j (by omega)
  · rw [h.1 i (by omega)]; exact hv i hi

set_option maxRecDepth 100000 in
set_option maxHeartbeats 4000000 in
theorem insSort_any (W : World) (B n c : Nat) (K : Nat → Int) (g : Nat) (p : Value) (eg : ∀ args w, (callFunc g args).run Tryd.prog w = .ok (.enter g args) w) (hC : CmpK W B n K g p) (d : Nat → Nat) (a b : Nat) (w : World)
    (hS : Sw W B n d w) (hab : a ≤ b) (hbn : b ≤ n) (hn : n ≤ 1048576) (hasc : ∀ i j, a ≤ i → i < j → j < b → d i < d j) (hv : ∀ i, i < n → d i < n) :
    Calls Tryd.prog 45 #[.slice (some ⟨B, 0, none⟩) n c, .int .i64 a, .int .i64 b, .func (.func g) #[] #[p]] w fun e w' => e = .returned (.tuple #[]) ∧ ∃ d', Sw W B n d' w' ∧ Frm d d' a b ∧ Inc K d' a b := by
  have HA : Hid (∀ i j, a ≤ i → i < j → j < b → d i < d j) := hasc
  have HV : Hid (∀ i, i < n → d i < n) := hv
  have HC : Hid (CmpK W B n K g p) := hC
  clear hasc hv hC
  go_enter Tryd.func45, Tryd.ntmps45
  go_wp2
  go_loopw [8] (fun v wr => ∃ (i : Nat) (cur : Nat → Nat), v = .int .i64 i ∧ a < i ∧ i ≤ b + 1 ∧ Sw W B n cur wr ∧ ((i ≤ b ∧ Frm d cur a i ∧ Inc K cur a i) ∨ (b = a ∧ i = a + 1 ∧ cur = d))) (fun v _ => b + 1 - (intOf v).toNat)
  case atStart =>
    refine ⟨a + 1, d, by go_num, by omega, by omega, hS, ?_⟩
    by_cases h : a < b
    · exact .inl ⟨by omega, Frm.refl _ _ _, fun i j h1 h2 h3 => absurd h3 (by omega)⟩
    · exact .inr ⟨by omega, rfl, rfl⟩
  case round =>
    clear hS
    obtain ⟨i, cur, rfl, hai, hib, hr, hcur⟩ := hrel
    have HCU : Hid ((i ≤ b ∧ Frm d cur a i ∧ Inc K cur a i) ∨ (b = a ∧ i = a + 1 ∧ cur = d)) := hcur
    clear hcur
    by_cases hlt : i < b
    · have hlt' : (i : Int) < (b : Int) := by omega
      have hF : Hid (Frm d cur a i ∧ Inc K cur a i) := by
        rcases HCU.out with h | h
        · exact h.2
        · omega
      have HI0 : Ins K cur cur a i i := Ins.start hF.out.2 fun q h1 h2 => by
        obtain ⟨j, j1, j2, j3⟩ := hF.out.1.2 q h1 h2
        rw [j3, hF.out.1.1 i (by omega)]
        exact HA.out j i j1 j2 hlt
      go_wp2
      obtain ⟨wo, ho⟩ : ∃ V : World, V = wr := ⟨wr, rfl⟩
      subst ho
      go_loopw [9] (fun v wr => ∃ (j : Nat) (e : Nat → Nat), v = .int .i64 j ∧ a ≤ j ∧ j ≤ i ∧ Ins K cur e a i j ∧ Sw W B n e wr) (fun v _ => (intOf v).toNat)
      case atStart => exact ⟨i, cur, rfl, by omega, Nat.le_refl _, HI0, hr⟩
      case round =>
        clear HI0 hr
        obtain ⟨j, e, rfl, haj, hji, hI, hr⟩ := hrel
        have HI : Hid (Ins K cur e a i j) := hI
        have HD : Hid ((j = a ∨ K (e (j - 1)) ≤ K (e j)) → Frm d e a (i + 1) ∧ Inc K e a (i + 1)) := fun hq =>
          ⟨(hF.out.1.wide (Nat.le_refl _) (Nat.le_succ _)).trans hI.frm, hI.done haj hji (hq.imp id fun h => by omega)⟩
        have HVe : Hid (∀ q, q < n → e q < n) := ((hF.out.1.wide (Nat.le_refl _) (Nat.le_succ _)).trans hI.frm).vals HV.out (by omega)
        clear hI
        by_cases hja : a < j
        · obtain ⟨jp, rfl⟩ : ∃ jp, j = jp + 1 := ⟨j - 1, by omega⟩
          have hjn : jp + 1 < n := by omega
          have hpn : jp < n := by omega
          obtain ⟨j1, hj1⟩ : ∃ j1, j1 = jp + 1 := ⟨_, rfl⟩
          have HJ : Hid (j1 = jp + 1) := hj1
          rw [← hj1] at HI HD hjn hja
          have hcast : ((jp + 1 : Nat) : Int) = (j1 : Int) := by omega
          rw [hcast]
          have hwp : IntKind.i64.wrap ((j1 : Int) - 1) = (jp : Int) := by rw [IntKind.wrap_i64]; omega
          have hx : e j1 < n := HVe.out _ hjn
          have hy : e jp < n := HVe.out _ hpn
          obtain ⟨x, Hx⟩ : ∃ x, Hid (e j1 = x) := ⟨_, (rfl : e j1 = _)⟩
          obtain ⟨y, Hy⟩ : ∃ x, Hid (e jp = x) := ⟨_, (rfl : e jp = _)⟩
          rw [Hx.out] at hx
          rw [Hy.out] at hy
          have hR : ∀ w', Sw W B n e w' → w'.cell? ⟨B, j1, none⟩ = some (.int .i64 (x : Int)) ∧ w'.cell? ⟨B, jp, none⟩ = some (.int .i64 (y : Int)) := fun w' h => ⟨by rw [h.row.cell hjn, Hx.out], by rw [h.row.cell hpn, Hy.out]⟩
          have hja' : (a : Int) < (j1 : Int) := by omega
          have hgd : decide ((j1 : Int) > (a : Int)) = true := decide_eq_true hja'
          have hjn' : (j1 : Int) < (n : Int) := by omega
          have hpn' : (jp : Int) < (n : Int) := by omega
          clear hj1 hcast
          by_cases hK : K x < K y
          · have hz : cmz (K x) (K y) < 0 := cmz_lt hK
            obtain ⟨z, Hz⟩ : ∃ z, Hid (cmz (K x) (K y) = z) := ⟨_, (rfl : cmz (K x) (K y) = _)⟩
            rw [Hz.out] at hz
            go_wp2
            go_region_held3 (fun w' => Sw W B n e w') (with_reducible (repeat (first | exact hr | refine Sw.drew ?_ | assumption)))
              (first
                | (go_at_fn g; refine (HC.out e _ (by assumption) x y hx hy).mono ?_; rintro _ w4 ⟨rfl, hb4⟩; rw [Hz.out]; refine (fun hq : Sw W B n e w4 => ?_) (Sw.bel (by assumption) hb4)))
            have HQ : Hid (Sw W B n e w4) := hq
            have cx := (hR _ hq).1
            have cy := (hR _ hq).2
            have fx := hq.row.frozen j1
            have fy := hq.row.frozen jp
            have hB := hq.row.lt
            have hne : j1 ≠ jp := by have := HJ.out; omega
            have hne' : jp ≠ j1 := by have := HJ.out; omega
            clear hR hr hb4 hq
            go_wp2
            go_big_region
            obtain ⟨V, HV'⟩ : ∃ V : World, Hid (V = ((w4.setCell ⟨B, j1, none⟩ (.int .i64 (y : Int))).setCell ⟨B, jp, none⟩ (.int .i64 (x : Int))).drew) := ⟨_, (rfl : ((w4.setCell ⟨B, j1, none⟩ (.int .i64 (y : Int))).setCell ⟨B, jp, none⟩ (.int .i64 (x : Int))).drew = _)⟩
            have HN : Hid (Sw W B n (swp e j1 jp) V) := by
              have := (HQ.out.swp (show j1 ≠ jp by have := HJ.out; omega)).drew
              rw [Hx.out, Hy.out] at this
              rw [HV'.out]; exact this
            have HI2 : Hid (Ins K cur (swp e j1 jp) a i jp) := by
              have h := HI.out
              rw [HJ.out] at h ⊢
              exact h.step (by have := HJ.out; omega) hji (by rw [← HJ.out, Hx.out, Hy.out]; exact hK)
            rw [← HV'.out]
            clear cx cy fx fy hB
            go_wp2
            go_roundw
            case rel => exact ⟨jp, _, by first | rfl | go_num | (congr 1; have := HJ.out; omega), by have := HJ.out; omega, by omega, HI2.out, HN.out⟩
            case measure => have := HJ.out; simp [intOf]; omega
          · have hz : ¬ cmz (K x) (K y) < 0 := cmz_ge hK
            obtain ⟨z, Hz⟩ : ∃ z, Hid (cmz (K x) (K y) = z) := ⟨_, (rfl : cmz (K x) (K y) = _)⟩
            rw [Hz.out] at hz
            have HD2 : Hid (Frm d e a (i + 1) ∧ Inc K e a (i + 1)) := HD.out (Or.inr (by rw [show j1 - 1 = jp by have := HJ.out; omega, Hx.out, Hy.out]; omega))
            go_wp2
            go_region_held3 (fun w' => Sw W B n e w') (with_reducible (repeat (first | exact hr | refine Sw.drew ?_ | assumption)))
              (first
                | (go_at_fn g; refine (HC.out e _ (by assumption) x y hx hy).mono ?_; rintro _ w4 ⟨rfl, hb4⟩; rw [Hz.out]; refine (fun hq : Sw W B n e w4 => ?_) (Sw.bel (by assumption) hb4)))
            have HQ : Hid (Sw W B n e w4) := hq
            clear hR hr hb4 hq
            go_wp2
            go_roundw
            case rel => exact ⟨i + 1, e, by go_num, by omega, by omega, HQ.out, .inl ⟨by omega, HD2.out.1, HD2.out.2⟩⟩
            case measure => simp [intOf]; omega
        · have hja' : ¬ (a : Int) < (j : Int) := by omega
          have hgd : decide ((j : Int) > (a : Int)) = false := decide_eq_false hja'
          have HD2 : Hid (Frm d e a (i + 1) ∧ Inc K e a (i + 1)) := HD.out (Or.inl (by omega))
          have HQ : Hid (Sw W B n e wr.drew) := hr.drew
          clear hr
          go_wp2
          go_big_region
          go_wp2
          go_roundw
          case rel => exact ⟨i + 1, e, by go_num, by omega, by omega, HQ.out, .inl ⟨by omega, HD2.out.1, HD2.out.2⟩⟩
          case measure => simp [intOf]; omega
    · have hlt' : ¬ (i : Int) < (b : Int) := by omega
      have HO : Hid (∃ d', Sw W B n d' wr ∧ Frm d d' a b ∧ Inc K d' a b) := by
        rcases HCU.out with ⟨h1, h2, h3⟩ | ⟨h1, h2, h3⟩
        · obtain rfl : i = b := by omega
          exact ⟨cur, hr, h2, h3⟩
        · subst h3
          exact ⟨cur, hr, Frm.refl _ _ _, fun i j h1 h2 h3 => absurd h3 (by omega)⟩
      clear hr
      go_wp2
      go_end0
      exact ⟨rfl, HO.out⟩
end Go.Proofs.YtkinpfnelmdmlaaDoor
