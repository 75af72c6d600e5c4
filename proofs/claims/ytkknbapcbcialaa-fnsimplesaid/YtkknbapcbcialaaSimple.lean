/-
  PROVED: for every row of bytes the law FnSimple says true.
-/
import Derived.Test.YtkknbapcbcialaaSmpF
import Derived.Test.YtkknbapcbcialaaSmpL
import Derived.Test.YtkknbapcbcialaaSimpI
import Derived.Test.YtkknbapcbcialaaNearJ
import Derived.Test.YtkknbapcbcialaaOpenB
import Derived.Test.YtkknbapcbcialaaEqPt
namespace Go.Proofs.Ytkknbapcbcialaa
open Go.ChangeShapes Go.WideShapes Go.ChangeAt Go.RowKit

theorem far_fld (l a x y f : Int) (w : World) : (Instr.field 32 (ft l a x y f) 3).run Try.prog w = .ok (.int .i64 f) w := by kernel_rfl
/-- The literal row. -/
def litX : Nat → Int := fun i => if i = 1 then 9 else 0
theorem lit_two : (sq 0 2 litX (fun _ => 0)).length = 2 := by
  rw [sq_yes (rowB_true (by decide) (fun i hi => by rcases (show i = 0 ∨ i = 1 by omega) with rfl | rfl <;> decide)) (Int.le_refl _), sl_some (by decide), kp_one (by decide) (by decide)]
  rfl
theorem sq_empty {q : Int} {m : Nat} {X Y : Nat → Int} (h : sq q m X Y = []) : m = 0 ∨ q < 0 ∨ rowB m X Y = false := by
  by_cases m0 : m = 0
  · exact .inl m0
  · by_cases h0 : q < 0
    · exact .inr (.inl h0)
    · cases hr : rowB m X Y
      · exact .inr (.inr rfl)
      · have := (smp_of (by omega : 0 ≤ q) m0 hr).pos
        rw [← sq_yes hr (by omega), h] at this
        cases this
theorem sq_full {q : Int} {m : Nat} {X Y : Nat → Int} (h : sq q m X Y ≠ []) : m ≠ 0 ∧ 0 ≤ q ∧ rowB m X Y = true ∧ sq q m X Y = sl q m X Y m := by
  cases hr : rowB m X Y
  · exact absurd (sq_no (.inl hr)) h
  · by_cases h0 : q < 0
    · exact absurd (sq_no (.inr h0)) h
    · have e := sq_yes (X := X) (Y := Y) hr (by omega : 0 ≤ q)
      refine ⟨fun m0 => ?_, by omega, rfl, e⟩
      subst m0
      rw [e] at h
      exact h rfl
theorem rowB_no {m : Nat} {X Y : Nat → Int} (h : rowB m X Y = false) (hm : m ≤ 2000) : okA m X Y = false := by
  unfold rowB at h
  rw [decide_eq_true hm, Bool.true_and] at h
  exact h

set_option maxRecDepth 100000 in
set_option maxHeartbeats 8000000 in
theorem lawFnSimple_any (a : Option Addr) (n c : Nat) (w : World) (hS : Bts w a n) (_hm : n ≤ 9223372036854775807) :
    Calls Try.prog 3 #[.slice a n c] w fun e w' => e = .returned (.bool true) ∧ Bel w w' := by
  by_cases hn : n ≤ 1048576
  · have hbig : decide (1048576 < (n : Int)) = false := by simp; omega
    go_enter Try.func3, Try.ntmps3
    go_wp2_with fail
    refine (big_any _ _ _ _).mono ?_
    rintro e w1 ⟨rfl, rfl⟩
    rw [hbig]
    clear hbig
    go_wp2_with fail
    refine (drawSimplify_any _ _ _ _ hS hn).mono ?_
    rintro e w2 ⟨v, m, xs, q, rfl, hm, ⟨q0, q1⟩, hO, hX, B2⟩
    obtain ⟨a2, c2, X, Y, rfl, hc2, P2⟩ := own_pts hO hX
    clear hO hX
    go_wp2_with fail
    refine (simplify_any a2 m c2 X Y q w2 P2 hc2 (by omega)).mono ?_
    rintro e w3 ⟨v3, rfl, O3, g3⟩
    obtain ⟨a3, c3, rfl⟩ := O3.shape
    have B3 := bel_step B2 g3
    have P3 := P2.bel g3
    have LP : Pts (w3.alloc (.cells #[.int .i64 0, .int .i64 0, .int .i64 9, .int .i64 0] 29)) (some ⟨w3.heap.size, 0, none⟩) 2 litX (fun _ => 0) := by
      refine .inr ⟨w3.heap.size, 0, rfl, by simp, fun i hi => ?_⟩
      rcases (show i = 0 ∨ i = 1 by omega) with rfl | rfl <;> exact ⟨by simp [go_sem, litX], by simp [go_sem]⟩
    have B4 := bel_alloc B3 (.cells #[.int .i64 0, .int .i64 0, .int .i64 9, .int .i64 0] 29)
    have P4 := P3.bel (bel_alloc (Bel.refl w3) (.cells #[.int .i64 0, .int .i64 0, .int .i64 9, .int .i64 0] 29))
    have O4 := O3.bel (bel_alloc (Bel.refl w3) (.cells #[.int .i64 0, .int .i64 0, .int .i64 9, .int .i64 0] 29))
    clear O3 P3 P2 g3 B3 B2
    go_wp2_with fail
    refine (simplify_any (some ⟨w3.heap.size, 0, none⟩) 2 2 litX (fun _ => 0) 0 _ LP (Nat.le_refl _) (by decide)).mono ?_
    rintro e w5 ⟨v5, rfl, O5, g5⟩
    obtain ⟨a5, c5, rfl⟩ := O5.shape
    rw [lit_two]
    have B5 := bel_step B4 g5
    have P5 := P4.bel g5
    have O5 := O4.bel g5
    clear O4 P4 B4 LP g5
    obtain ⟨L, HL⟩ : ∃ L, Hid (sq q m X Y = L) := ⟨_, (rfl : sq q m X Y = _)⟩
    rw [HL.out] at O5 ⊢
    by_cases hL : L = []
    · have hno := sq_empty (HL.out.trans hL)
      subst hL
      clear O5 HL
      by_cases m0 : m = 0
      · subst m0
        go_wp2
        go_ret
        exact ⟨rfl, B5⟩
      · by_cases hq : q < 0
        · have m0' : ¬ (m : Int) = 0 := by omega
          clear hno
          go_wp2
          go_ret
          exact ⟨rfl, B5⟩
        · have m0' : ¬ (m : Int) = 0 := by omega
          by_cases hmm : 2000 < m
          · have hmm' : (2000 : Int) < (m : Int) := by omega
            clear hno
            go_wp2
            go_ret
            exact ⟨rfl, B5⟩
          · have hmm' : ¬ (2000 : Int) < (m : Int) := by omega
            have hr : okA m X Y = false := rowB_no (by rcases hno with h | h | h; (· exact absurd h m0); (· exact absurd h hq); (· exact h)) (by omega)
            clear hno
            go_wp2_with fail
            refine (allOk_any a2 m c2 X Y w5 P5 (by omega)).mono ?_
            rintro e w6 ⟨rfl, g6⟩
            rw [hr]
            have B6 := bel_step B5 g6
            go_wp2
            go_ret
            exact ⟨rfl, B6⟩
    · obtain ⟨m0, h0, hr, es⟩ := sq_full (by rw [HL.out]; exact hL)
      have HS : Hid (Smp q m X Y L) := by rw [← HL.out, es]; exact smp_of h0 m0 hr
      have HG : Hid ((sq 1099511627776 m X Y).length ≤ 2) := by
        show (sq 1099511627776 m X Y).length ≤ 2
        rw [sq_yes hr (by decide)]; exact sl_great (rowB_out hr).2
      have HK : Hid (∀ i, i < m → pok (X i) (Y i) = true) := fun i hi => pOk_iff.2 ((rowB_out hr).2 i hi)
      clear hL HL es hr
      obtain ⟨e, he⟩ : ∃ e, L.length = e + 1 := ⟨L.length - 1, by have := HS.out.pos; omega⟩
      obtain ⟨d, rfl⟩ : ∃ d, m = d + 1 := ⟨m - 1, by omega⟩
      have he2 : e ≤ d := by have := HS.out.le; omega
      have hd2 : d ≤ 2000 := by omega
      have he3 : (e : Int) ≤ 2000 := by omega
      have hd3 : (d : Int) ≤ 2000 := by omega
      have PL := O5.pts.2
      rw [he] at PL ⊢
      have hf := HS.out.first
      have hl := HS.out.last
      rw [he, Nat.add_sub_cancel, Nat.add_sub_cancel] at hl
      rcases PL with h | ⟨b3, o3, rfl, hb3, hc3⟩
      · cases h
      rcases P5 with h | ⟨b2, o2, rfl, hb2, hc2'⟩
      · cases h
      have PL : Hid (Pts w5 (some ⟨b3, o3, none⟩) (e + 1) (lX L) (lY L)) := .inr ⟨b3, o3, rfl, hb3, hc3⟩
      have PR : Hid (Pts w5 (some ⟨b2, o2, none⟩) (d + 1) X Y) := .inr ⟨b2, o2, rfl, hb2, hc2'⟩
      have HE : Hid (L.length = e + 1) := he
      have hR : ∀ v, Bel w5 v → v.cell? ⟨b3, o3, none⟩ = some (.int .i64 (X 0)) ∧ v.cell? ⟨b3, o3 + 1, none⟩ = some (.int .i64 (Y 0)) ∧ v.cell? ⟨b3, o3 + e * 2, none⟩ = some (.int .i64 (X d)) ∧ v.cell? ⟨b3, o3 + e * 2 + 1, none⟩ = some (.int .i64 (Y d)) ∧ v.cell? ⟨b2, o2, none⟩ = some (.int .i64 (X 0)) ∧ v.cell? ⟨b2, o2 + 1, none⟩ = some (.int .i64 (Y 0)) ∧ v.cell? ⟨b2, o2 + d * 2, none⟩ = some (.int .i64 (X d)) ∧ v.cell? ⟨b2, o2 + d * 2 + 1, none⟩ = some (.int .i64 (Y d)) := fun v g => by
        obtain ⟨u0, u1⟩ := hc3 0 (by omega)
        obtain ⟨u2, u3⟩ := hc3 e (by omega)
        obtain ⟨u4, u5⟩ := hc2' 0 (by omega)
        obtain ⟨u6, u7⟩ := hc2' d (by omega)
        rw [hf.1] at u0
        rw [hf.2] at u1
        rw [hl.1] at u2
        rw [hl.2] at u3
        rw [Nat.zero_mul, Nat.add_zero] at u0 u1 u4 u5
        exact ⟨cur_cell g hb3 u0, cur_cell g hb3 u1, cur_cell g hb3 u2, cur_cell g hb3 u3, cur_cell g hb2 u4, cur_cell g hb2 u5, cur_cell g hb2 u6, cur_cell g hb2 u7⟩
      have we : wrap64 ((e : Int) + 1 - 1) = (e : Int) := by unfold wrap64; omega
      have xe : (e : Int) + 1 - 1 = (e : Int) := by omega
      have ye : ((e + 1 : Nat) : Int) - 1 = (e : Int) := by omega
      have ze : wrap64 (((e + 1 : Nat) : Int) - 1) = (e : Int) := by unfold wrap64; omega
      have ne : ¬ (e : Int) < 0 := by omega
      have le : (e : Int) < (e : Int) + 1 := by omega
      have ke : e < e + 1 := by omega
      have wd : wrap64 ((d : Int) + 1 - 1) = (d : Int) := by unfold wrap64; omega
      have xd : (d : Int) + 1 - 1 = (d : Int) := by omega
      have yd : ((d + 1 : Nat) : Int) - 1 = (d : Int) := by omega
      have zd : wrap64 (((d + 1 : Nat) : Int) - 1) = (d : Int) := by unfold wrap64; omega
      have nd : ¬ (d : Int) < 0 := by omega
      have ld : (d : Int) < (d : Int) + 1 := by omega
      have kd : d < d + 1 := by omega
      have ie : IntKind.i64.wrap ((e : Int) + 1 - 1) = (e : Int) := by rw [IntKind.wrap_i64]; omega
      have je : IntKind.i64.wrap (((e + 1 : Nat) : Int) - 1) = (e : Int) := by rw [IntKind.wrap_i64]; omega
      have pe : (0 : Int) ≤ (e : Int) := by omega
      have qe : (e : Int) ≤ (e : Int) + 1 := by omega
      have re : IntKind.i64.wrap (e : Int) = (e : Int) := by rw [IntKind.wrap_i64]; omega
      have id : IntKind.i64.wrap ((d : Int) + 1 - 1) = (d : Int) := by rw [IntKind.wrap_i64]; omega
      have jd : IntKind.i64.wrap (((d + 1 : Nat) : Int) - 1) = (d : Int) := by rw [IntKind.wrap_i64]; omega
      have pd : (0 : Int) ≤ (d : Int) := by omega
      have qd : (d : Int) ≤ (d : Int) + 1 := by omega
      have rd : IntKind.i64.wrap (d : Int) = (d : Int) := by rw [IntKind.wrap_i64]; omega
      have g0 : Bel w5 w5 := Bel.refl _
      have he0 : ¬ (e : Int) + 1 = 0 := by omega
      have hez : (((e : Int) + 1) == 0) = false := by simp; omega
      have HSB : Hid (L.Sublist (rowL X Y (d + 1))) := HS.out.sub
      have HC3 : Hid (∀ i, i < e + 1 → w5.cell? ⟨b3, o3 + i * 2, none⟩ = some (.int .i64 (lX L i)) ∧ w5.cell? ⟨b3, o3 + i * 2 + 1, none⟩ = some (.int .i64 (lY L i))) := hc3
      have HC2 : Hid (∀ i, i < d + 1 → w5.cell? ⟨b2, o2 + i * 2, none⟩ = some (.int .i64 (X i)) ∧ w5.cell? ⟨b2, o2 + i * 2 + 1, none⟩ = some (.int .i64 (Y i))) := hc2'
      clear hc3 hc2' hf hl he O5
      go_wp2
      go_region_held3 (fun w' => Bel w5 w') (with_reducible (repeat (first | exact g0 | refine Bel.drew ?_ | assumption))) (fail)
      have gd : Bel w5 w5.drew := Bel.drew g0
      clear hR he0 ie je pe qe re id jd pd qd rd we xe ye ze ne le ke wd xd yd zd nd ld kd
      go_wp2
      go_loopw [6, 7] (fun k i wr => ∃ k' i' : Nat, k' ≤ e + 1 ∧ i' ≤ d + 1 ∧ k = .int .i64 k' ∧ i = .int .i64 i' ∧ (L.drop k').Sublist ((rowL X Y (d + 1)).drop i') ∧ Bel w5 wr) (fun _ i _ => d + 1 - (intOf i).toNat)
      case atStart => exact ⟨0, 0, by omega, by omega, rfl, rfl, HSB.out, gd⟩
      case round =>
        obtain ⟨k, i, hk, hi, rfl, rfl, hsub, gr⟩ := hrel
        clear gd g0
        by_cases hlt : i < d + 1
        · have hlt' : (i : Int) < (d : Int) + 1 := by omega
          have hi0 : (0 : Int) ≤ (i : Int) := by omega
          have hk0 : (0 : Int) ≤ (k : Int) := by omega
          have Hs : Hid ((L.drop (if L[k]? = some (X i, Y i) then k + 1 else k)).Sublist ((rowL X Y (d + 1)).drop (i + 1))) := met_step (by rw [← rowL_at hlt]; exact hsub)
          obtain ⟨f1, f2, f3, f4, F, HF⟩ : ∃ f1 f2 f3 f4 F : Int, Hid (nqv (e + 1) (lX L) (lY L) (X i) (Y i) = ft f1 f2 f3 f4 F ∧ F ≤ q) := ⟨_, _, _, _, _, ⟨by rw [nq_yes (by rw [← HE.out]; exact HS.out.row) (HK.out i hlt)], by rw [← HE.out]; exact HS.out.near i hlt⟩⟩
          have hFq : ¬ q + 1 < F := by have := HF.out.2; omega
          have hfar := far_fld f1 f2 f3 f4 F
          obtain ⟨a0, a1⟩ := HC2.out i hlt
          obtain ⟨xi, Hxi⟩ : ∃ x, Hid (X i = x) := ⟨_, (rfl : X i = _)⟩
          obtain ⟨yi, Hyi⟩ : ∃ x, Hid (Y i = x) := ⟨_, (rfl : Y i = _)⟩
          rw [Hxi.out] at a0 Hs HF; rw [Hyi.out] at a1 Hs HF
          have u0 := cur_cell gr hb2 a0
          have u1 := cur_cell gr hb2 a1
          clear hsub
          by_cases hk2 : k < e + 1
          · have hk2' : (k : Int) < (e : Int) + 1 := by omega
            obtain ⟨b0, b1⟩ := HC3.out k hk2
            have HLk : Hid (L[k]? = some (lX L k, lY L k)) := getD_at (by rw [HE.out]; exact hk2)
            obtain ⟨sx, Hsx⟩ : ∃ x, Hid (lX L k = x) := ⟨_, (rfl : lX L k = _)⟩
            obtain ⟨sy, Hsy⟩ : ∃ x, Hid (lY L k = x) := ⟨_, (rfl : lY L k = _)⟩
            rw [Hsx.out] at b0 HLk; rw [Hsy.out] at b1 HLk
            have u2 := cur_cell gr hb3 b0
            have u3 := cur_cell gr hb3 b1
            have heq := fun w => ptEq xi yi sx sy w
            by_cases hxy : xi = sx ∧ yi = sy
            · have Hn : Hid ((L.drop (k + 1)).Sublist ((rowL X Y (d + 1)).drop (i + 1))) := by
                have := Hs.out
                rw [if_pos (by rw [HLk.out, hxy.1, hxy.2])] at this
                exact this
              rw [pt_same hxy] at heq
              clear hxy Hs
              go_wp2
              go_quiet (fail)
              have gq : Bel w5 (wr.drewN nq) := bel_drewN gr _
              have v0 := cur_cell gq hb2 a0
              have v1 := cur_cell gq hb2 a1
              go_wp2_with fail
              refine (near_any (some ⟨b3, o3, none⟩) (e + 1) c3 (lX L) (lY L) xi yi _ (PL.out.bel gq) (by omega)).mono ?_
              rintro e' w6 ⟨rfl, g6⟩
              rw [HF.out.1]
              have g6 := bel_step gq g6
              clear u0 u1 v0 v1 gq u2 u3 b0 b1 heq
              go_wp2
              go_roundw
              case rel => exact ⟨k + 1, i + 1, by omega, by omega, by go_num, by go_num, Hn.out, g6⟩
              case measure => simp [intOf]; omega
            · have Hn : Hid ((L.drop k).Sublist ((rowL X Y (d + 1)).drop (i + 1))) := by
                have := Hs.out
                rw [if_neg (by rw [HLk.out]; intro e; exact hxy ⟨(Prod.mk.inj (Option.some.inj e)).1.symm, (Prod.mk.inj (Option.some.inj e)).2.symm⟩)] at this
                exact this
              rw [pt_diff hxy] at heq
              clear hxy Hs
              go_wp2
              go_quiet (fail)
              have gq : Bel w5 (wr.drewN nq) := bel_drewN gr _
              have v0 := cur_cell gq hb2 a0
              have v1 := cur_cell gq hb2 a1
              go_wp2_with fail
              refine (near_any (some ⟨b3, o3, none⟩) (e + 1) c3 (lX L) (lY L) xi yi _ (PL.out.bel gq) (by omega)).mono ?_
              rintro e' w6 ⟨rfl, g6⟩
              rw [HF.out.1]
              have g6 := bel_step gq g6
              clear u0 u1 v0 v1 gq u2 u3 b0 b1 heq
              go_wp2
              go_roundw
              case rel => exact ⟨k, i + 1, by omega, by omega, by go_num, by go_num, Hn.out, g6⟩
              case measure => simp [intOf]; omega
          · have hk2' : decide ((k : Int) < (e : Int) + 1) = false := by simp; omega
            have Hn : Hid ((L.drop k).Sublist ((rowL X Y (d + 1)).drop (i + 1))) := by
              have := Hs.out
              rw [if_neg (by rw [List.getElem?_eq_none (by rw [HE.out]; omega)]; intro e; cases e)] at this
              exact this
            clear Hs
            go_wp2
            go_quiet (fail)
            have gq : Bel w5 (wr.drewN nq) := bel_drewN gr _
            have v0 := cur_cell gq hb2 a0
            have v1 := cur_cell gq hb2 a1
            go_wp2_with fail
            refine (near_any (some ⟨b3, o3, none⟩) (e + 1) c3 (lX L) (lY L) xi yi _ (PL.out.bel gq) (by omega)).mono ?_
            rintro e' w6 ⟨rfl, g6⟩
            rw [HF.out.1]
            have g6 := bel_step gq g6
            clear u0 u1 v0 v1 gq 
            go_wp2
            go_roundw
            case rel => exact ⟨k, i + 1, by omega, by omega, by go_num, by go_num, Hn.out, g6⟩
            case measure => simp [intOf]; omega
        · have hge : ¬ (i : Int) < (d : Int) + 1 := by omega
          have hkk : k = e + 1 := by
            have hlen : (rowL X Y (d + 1)).length ≤ i := by simp [rowL]; omega
            rw [List.drop_eq_nil_of_le hlen] at hsub
            have := List.eq_nil_of_sublist_nil hsub
            rw [List.drop_eq_nil_iff, HE.out] at this
            omega
          subst hkk
          clear hsub
          go_wp2_with fail
          refine (simplify_any (some ⟨b2, o2, none⟩) (d + 1) c2 X Y 1099511627776 _ (PR.out.bel gr) hc2 (by omega)).mono ?_
          rintro e' w6 ⟨v6, rfl, O6, g6⟩
          obtain ⟨a6, c6, rfl⟩ := O6.shape
          have h6 := HG.out
          generalize (sq 1099511627776 (d + 1) X Y).length = z at h6 ⊢
          have h6' : (z : Int) ≤ 2 := by omega
          have B6 := bel_step B5 (bel_step gr g6)
          clear O6
          go_wp2
          go_ret
          exact ⟨rfl, B6⟩
  · have hbig : decide (1048576 < (n : Int)) = true := by simp; omega
    go_enter Try.func3, Try.ntmps3
    go_wp2_with fail
    refine (big_any _ _ _ _).mono ?_
    rintro e w1 ⟨rfl, rfl⟩
    rw [hbig]
    go_wp2
    go_ret
    exact ⟨rfl, Bel.refl _⟩

theorem fnSimple_own : ownKnob Try.prog.godebug = none := by kernel_rfl
theorem fnSimple_laidOut : laidOutB Try.prog = true := by kernel_rfl

set_option maxRecDepth 100000 in
theorem fnSimple_lifted (os : Os) (started : os.Started) (H : Type) (enc : TypeId × Value → H) :
    ReturnsInHanded {} Try.checked os 3 .any (Rows.fnSimpleSpec.pre6 enc Try.prog Try.f3 Rows.fnSimpleRow.domain false) (Rows.fnSimpleSpec.post enc Try.prog Try.f3 false true false false) := by
  refine returnsInHanded_of_change (C := Try.checked) fnSimple_own started (by kernel_rfl) Try.func3
    (ChangeSpec.witness6 (enc := enc) (C := Try.checked) false ⟨#[], #[.slice none 0 0], []⟩ 8 (by kernel_rfl) (by kernel_rfl) (by kernel_rfl) (by kernel_rfl)) ?_
  intro W base args ds gs before hval0 hW hcnd _
  have hval : ∀ (j : Nat) t v, Try.f3.params[j]? = some t → args[j]? = some v → Value.okWide Try.prog W .any base t v := hval0
  have hW' := hW
  obtain ⟨p, q, hA0, hV, rfl, hfz, hnd⟩ := hW
  have hA : DataW.TrodAll enc Try.prog W 0 (fun _ => true) true Try.f3.params.toList args.toList ds p := hA0
  rw [Try.params3] at hA hval
  obtain ⟨v0, vs0, d0, ds0, p0, q0, hargs, rfl, rfl, h0, r0⟩ := trodAll_cons hA
  obtain ⟨rfl, rfl, rfl⟩ := trodAll_nil r0
  obtain rfl : args = #[v0] := by cases args; simp_all
  obtain ⟨rfl, rfl⟩ := trodVars_none hV
  have k0 := h0
  have lt0 : ∀ x ∈ p0, x.block < W.heap.size := by obtain ⟨m, hm⟩ := k0; exact DataW.trod_lt m _ _ _ hm
  obtain ⟨a0, n0, c0, rfl, ip0, im0⟩ := open_bytes (hval 0 22 v0 rfl rfl) h0
  clear hA0 hval0
  refine (lawFnSimple_any a0 n0 c0 W ip0 im0).mono fun e W' ⟨he, bel0⟩ => ?_
  have bel := bel0.out
  subst he
  exact ⟨_, rfl, _, _, _, [], _, [], hW', trodAll_mk1 (shut_bool Try.underlying4 _), (trodAll_cons_mk (Below.trod fnSimple_laidOut (by kernel_rfl) (of_decide_eq_true (by kernel_rfl)) k0 bel lt0) trodAll_mk0), rfl, bel.frame _, fun h => by cases h⟩

theorem fnSimple_over : Rows.fnSimpleRow.holds Try.pinned (OpenSpec.ofChange Rows.fnSimpleSpec) :=
  OpenClaim.holds_of_wide 3 Try.f3 rfl rfl rfl rfl rfl rfl rfl ⟨rfl, rfl, rfl, rfl, rfl⟩ rfl rfl rfl rfl rfl (by kernel_rfl) Try.func3 (by kernel_rfl)
    (of_decide_eq_true (by kernel_rfl)) (by unfold Func.isWrapper; first | (rw [if_pos (by decide +kernel)]; kernel_rfl) | (rw [if_neg (by decide +kernel)]; exact ⟨rfl, rfl⟩))
    (fun os started H enc _ => fnSimple_lifted os started H enc)

theorem fnSimple_holds : Rows.FnSimpleSaid := fnSimple_over
#print axioms fnSimple_holds
end Go.Proofs.Ytkknbapcbcialaa
