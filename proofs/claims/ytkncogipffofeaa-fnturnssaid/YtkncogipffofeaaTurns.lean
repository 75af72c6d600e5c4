/-
  PROVED: for every row of bytes the law FnTurns says true: a turn from the other side is the other turn, moved along it is the same; a stretch crosses another one where that crosses it, and itself. No condition.
-/
import Derived.Test.YtkncogipffofeaaDrawX
import Derived.Test.YtkncogipffofeaaTrnM
import Derived.Test.YtkncogipffofeaaCrossP
import Derived.Test.YtkncogipffofeaaOpenB
namespace Go.Proofs.Ytkncogipffofeaa
open Go.ChangeShapes Go.WideShapes Go.ChangeAt Go.RowKit

theorem turn_one : turnOf 0 0 1 0 0 1 = 1 := by decide
theorem two_turns {x0 y0 x1 y1 x2 y2 : Int} (h : (pok x0 y0 && pok x1 y1 && pok x2 y2) = false) (h0 : pok x0 y0 = true) (h1 : pok x1 y1 = true) : pok x2 y2 = false := by rw [h0, h1] at h; simpa using h
theorem wrap_turn {t : Int} (h0 : -1 ≤ t) (h1 : t ≤ 1) : wrap64 (-t) = -t := by unfold wrap64; omega

set_option maxRecDepth 100000 in
set_option maxHeartbeats 4000000 in
theorem lawFnTurns_any (a : Option Addr) (n c : Nat) (w : World) (hS : Bts w a n) (_hm : n ≤ 9223372036854775807) :
    Calls Try.prog 3 #[.slice a n c] w fun e w' => e = .returned (.bool true) ∧ Bel w w' := by
  by_cases hn : n ≤ 1048576
  · have hbig : decide (1048576 < (n : Int)) = false := by simp; omega
    go_enter Try.func3, Try.ntmps3
    go_wp2_with fail
    refine (big_any _ _ _ _).mono ?_
    rintro e w1 ⟨rfl, rfl⟩
    rw [hbig]
    go_wp2_with fail
    refine (drawTurn_any _ _ _ _ hS hn).mono ?_
    rintro e w2 ⟨x0, y0, x1, y1, x2, y2, rfl, hb2⟩
    obtain ⟨W1, HW1⟩ : ∃ W, Hid (W = (((w2.alloc (.cells #[.int .i64 x0, .int .i64 y0] 25)).alloc (.cells #[.int .i64 x1, .int .i64 y1] 25)).alloc (.cells #[.int .i64 x2, .int .i64 y2] 25))) := ⟨_, (rfl : (((w2.alloc (.cells #[.int .i64 x0, .int .i64 y0] 25)).alloc (.cells #[.int .i64 x1, .int .i64 y1] 25)).alloc (.cells #[.int .i64 x2, .int .i64 y2] 25)) = _)⟩
    have hW1 : Bel w2 W1 := by rw [HW1.out]; exact bel_alloc (bel_alloc (bel_alloc (Bel.refl _) _) _) _
    have Q0 : Pa W1 (w2.heap.size) x0 y0 := by
      rw [HW1.out]
      have := (Pa.new w2 x0 y0 25).bel (bel_alloc (bel_alloc (Bel.refl _) (.cells #[.int .i64 x1, .int .i64 y1] 25)) (.cells #[.int .i64 x2, .int .i64 y2] 25))
      simpa using this
    have Q1 : Pa W1 (w2.heap.size + 1) x1 y1 := by
      rw [HW1.out]
      have := (Pa.new (w2.alloc (.cells #[.int .i64 x0, .int .i64 y0] 25)) x1 y1 25).bel (bel_alloc (Bel.refl _) (.cells #[.int .i64 x2, .int .i64 y2] 25))
      simpa using this
    have Q2 : Pa W1 (w2.heap.size + 1 + 1) x2 y2 := by
      rw [HW1.out]
      have := (Pa.new ((w2.alloc (.cells #[.int .i64 x0, .int .i64 y0] 25)).alloc (.cells #[.int .i64 x1, .int .i64 y1] 25)) x2 y2 25).bel (Bel.refl _)
      simpa using this
    have hRW1 : ∀ v, Bel W1 v → v.cell? ⟨w2.heap.size, 0, none⟩ = some (.int .i64 x0) ∧ v.cell? ⟨w2.heap.size, 1, none⟩ = some (.int .i64 y0) ∧ v.cell? ⟨w2.heap.size + 1, 0, none⟩ = some (.int .i64 x1) ∧ v.cell? ⟨w2.heap.size + 1, 1, none⟩ = some (.int .i64 y1) ∧ v.cell? ⟨w2.heap.size + 1 + 1, 0, none⟩ = some (.int .i64 x2) ∧ v.cell? ⟨w2.heap.size + 1 + 1, 1, none⟩ = some (.int .i64 y2) := fun v h => ⟨(Q0.bel h).c0, (Q0.bel h).c1, (Q1.bel h).c0, (Q1.bel h).c1, (Q2.bel h).c0, (Q2.bel h).c1⟩
    clear Q0 Q1 Q2
    have hBW := bel_step hb2 hW1
    go_wp2_with fail
    rw [← HW1.out]
    refine (turn_any 0 0 1 0 0 1 W1).mono ?_
    rintro e w3 ⟨rfl, g3⟩
    rw [turn_one]
    clear hb2 hW1 HW1
    go_wp2_with fail
    refine (turn_any x0 y0 x1 y1 x2 y2 w3).mono ?_
    rintro e w4 ⟨rfl, hb4⟩
    have g4 := bel_step g3 hb4
    by_cases h2 : turnOf x0 y0 x1 y1 x2 y2 = 2
    · have HP : Hid ((pok x0 y0 && pok x1 y1 && pok x2 y2) = false) := turn_two h2
      rw [h2]
      clear h2
      go_wp2_with fail
      refine (pointOk_any x0 y0 w4).mono ?_
      rintro e w5 ⟨rfl, hb5⟩
      have g5 := bel_step g4 hb5
      by_cases pa : pok x0 y0 = true
      · go_wp2_with fail
        refine (pointOk_any x1 y1 w5).mono ?_
        rintro e w6 ⟨rfl, hb6⟩
        have g6 := bel_step g5 hb6
        by_cases pb : pok x1 y1 = true
        · have pc := two_turns HP.out pa pb
          go_wp2_with fail
          refine (pointOk_any x2 y2 w6).mono ?_
          rintro e w7 ⟨rfl, hb7⟩
          have g7 := bel_step g6 hb7
          go_wp2
          go_ret
          exact ⟨rfl, bel_step hBW g7⟩
        · have pb : pok x1 y1 = false := by simpa using pb
          go_wp2
          go_ret
          exact ⟨rfl, bel_step hBW g6⟩
      · have pa : pok x0 y0 = false := by simpa using pa
        go_wp2
        go_ret
        exact ⟨rfl, bel_step hBW g5⟩
    · obtain ⟨t1, t2, t3, lo, hi⟩ := turn_all h2
      have HT1 : Hid (turnOf x2 y2 x1 y1 x0 y0 = - turnOf x0 y0 x1 y1 x2 y2) := t1
      have HT2 : Hid (turnOf x1 y1 x2 y2 x0 y0 = turnOf x0 y0 x1 y1 x2 y2) := t2
      have HT3 : Hid (turnOf x0 y0 x0 y0 x2 y2 = 0) := t3
      clear t1 t2 t3
      generalize turnOf x0 y0 x1 y1 x2 y2 = t at h2 HT1 HT2 lo hi ⊢
      have hwt := wrap_turn lo hi
      clear lo hi
      go_wp2_with fail
      refine (turn_any x2 y2 x1 y1 x0 y0 w4).mono ?_
      rintro e w5 ⟨rfl, hb5⟩
      rw [HT1.out]
      have g5 := bel_step g4 hb5
      go_wp2_with fail
      refine (turn_any x1 y1 x2 y2 x0 y0 w5).mono ?_
      rintro e w6 ⟨rfl, hb6⟩
      rw [HT2.out]
      have g6 := bel_step g5 hb6
      go_wp2_with fail
      refine (turn_any x0 y0 x0 y0 x2 y2 w6).mono ?_
      rintro e w7 ⟨rfl, hb7⟩
      rw [HT3.out]
      have g7 := bel_step g6 hb7
      have B7 := bel_step hBW g7
      clear HT1 HT2 HT3
      go_wp2_with fail
      refine (drawCross_any _ _ _ _ (hS.bel B7) hn).mono ?_
      rintro e w8 ⟨p0, q0, p1, q1, p2, q2, p3, q3, rfl, hb8⟩
      clear g3 g4 g5 g6 hb4 hb5 hb6 hb7 g7 hRW1
      obtain ⟨W2, HW2⟩ : ∃ W, Hid (W = ((((w8.alloc (.cells #[.int .i64 p0, .int .i64 q0] 25)).alloc (.cells #[.int .i64 p1, .int .i64 q1] 25)).alloc (.cells #[.int .i64 p2, .int .i64 q2] 25)).alloc (.cells #[.int .i64 p3, .int .i64 q3] 25))) := ⟨_, (rfl : ((((w8.alloc (.cells #[.int .i64 p0, .int .i64 q0] 25)).alloc (.cells #[.int .i64 p1, .int .i64 q1] 25)).alloc (.cells #[.int .i64 p2, .int .i64 q2] 25)).alloc (.cells #[.int .i64 p3, .int .i64 q3] 25)) = _)⟩
      have hW2 : Bel w8 W2 := by rw [HW2.out]; exact bel_alloc (bel_alloc (bel_alloc (bel_alloc (Bel.refl _) _) _) _) _
      have T0 : Pa W2 (w8.heap.size) p0 q0 := by
        rw [HW2.out]
        have := (Pa.new w8 p0 q0 25).bel (bel_alloc (bel_alloc (bel_alloc (Bel.refl _) (.cells #[.int .i64 p1, .int .i64 q1] 25)) (.cells #[.int .i64 p2, .int .i64 q2] 25)) (.cells #[.int .i64 p3, .int .i64 q3] 25))
        simpa using this
      have T1 : Pa W2 (w8.heap.size + 1) p1 q1 := by
        rw [HW2.out]
        have := (Pa.new (w8.alloc (.cells #[.int .i64 p0, .int .i64 q0] 25)) p1 q1 25).bel (bel_alloc (bel_alloc (Bel.refl _) (.cells #[.int .i64 p2, .int .i64 q2] 25)) (.cells #[.int .i64 p3, .int .i64 q3] 25))
        simpa using this
      have T2 : Pa W2 (w8.heap.size + 1 + 1) p2 q2 := by
        rw [HW2.out]
        have := (Pa.new ((w8.alloc (.cells #[.int .i64 p0, .int .i64 q0] 25)).alloc (.cells #[.int .i64 p1, .int .i64 q1] 25)) p2 q2 25).bel (bel_alloc (Bel.refl _) (.cells #[.int .i64 p3, .int .i64 q3] 25))
        simpa using this
      have T3 : Pa W2 (w8.heap.size + 1 + 1 + 1) p3 q3 := by
        rw [HW2.out]
        have := (Pa.new (((w8.alloc (.cells #[.int .i64 p0, .int .i64 q0] 25)).alloc (.cells #[.int .i64 p1, .int .i64 q1] 25)).alloc (.cells #[.int .i64 p2, .int .i64 q2] 25)) p3 q3 25).bel (Bel.refl _)
        simpa using this
      have hRW2 : ∀ v, Bel W2 v → v.cell? ⟨w8.heap.size, 0, none⟩ = some (.int .i64 p0) ∧ v.cell? ⟨w8.heap.size, 1, none⟩ = some (.int .i64 q0) ∧ v.cell? ⟨w8.heap.size + 1, 0, none⟩ = some (.int .i64 p1) ∧ v.cell? ⟨w8.heap.size + 1, 1, none⟩ = some (.int .i64 q1) ∧ v.cell? ⟨w8.heap.size + 1 + 1, 0, none⟩ = some (.int .i64 p2) ∧ v.cell? ⟨w8.heap.size + 1 + 1, 1, none⟩ = some (.int .i64 q2) ∧ v.cell? ⟨w8.heap.size + 1 + 1 + 1, 0, none⟩ = some (.int .i64 p3) ∧ v.cell? ⟨w8.heap.size + 1 + 1 + 1, 1, none⟩ = some (.int .i64 q3) := fun v h => ⟨(T0.bel h).c0, (T0.bel h).c1, (T1.bel h).c0, (T1.bel h).c1, (T2.bel h).c0, (T2.bel h).c1, (T3.bel h).c0, (T3.bel h).c1⟩
      clear T0 T1 T2 T3
      have hBV := bel_step (bel_step B7 hb8) hW2
      go_wp2_with fail
      rw [← HW2.out]
      refine (cross_any p0 q0 p1 q1 p2 q2 p3 q3 W2).mono ?_
      rintro e w9 ⟨rfl, g9⟩
      have HC1 : Hid (crossOf p2 q2 p3 q3 p0 q0 p1 q1 = crossOf p0 q0 p1 q1 p2 q2 p3 q3) := cross_swap p0 q0 p1 q1 p2 q2 p3 q3
      have HC2 : Hid (crossOf p1 q1 p0 q0 p3 q3 p2 q2 = crossOf p0 q0 p1 q1 p2 q2 p3 q3) := cross_flip p0 q0 p1 q1 p2 q2 p3 q3
      generalize crossOf p0 q0 p1 q1 p2 q2 p3 q3 = X at HC1 HC2 ⊢
      clear hW2 HW2 hb8 B7 hBW
      go_wp2_with fail
      refine (cross_any p2 q2 p3 q3 p0 q0 p1 q1 w9).mono ?_
      rintro e w10 ⟨rfl, hb10⟩
      rw [HC1.out]
      have g10 := bel_step g9 hb10
      have hXX : (X != X) = false := by cases X <;> rfl
      go_wp2_with fail
      refine (cross_any p1 q1 p0 q0 p3 q3 p2 q2 w10).mono ?_
      rintro e w11 ⟨rfl, hb11⟩
      rw [HC2.out]
      have g11 := bel_step g10 hb11
      go_wp2_with fail
      refine (pointOk_any p0 q0 w11).mono ?_
      rintro e w12 ⟨rfl, hb12⟩
      have g12 := bel_step g11 hb12
      by_cases pa : pok p0 q0 = true
      · go_wp2_with fail
        refine (pointOk_any p1 q1 w12).mono ?_
        rintro e w13 ⟨rfl, hb13⟩
        have g13 := bel_step g12 hb13
        by_cases pb : pok p1 q1 = true
        · have HS : Hid (crossOf p0 q0 p1 q1 p0 q0 p1 q1 = true) := cross_self pa pb
          go_wp2_with fail
          refine (cross_any p0 q0 p1 q1 p0 q0 p1 q1 w13).mono ?_
          rintro e w14 ⟨rfl, hb14⟩
          have g14 := bel_step g13 hb14
          rw [HS.out]
          go_wp2
          go_ret
          exact ⟨rfl, bel_step hBV g14⟩
        · have pb : pok p1 q1 = false := by simpa using pb
          go_wp2
          go_ret
          exact ⟨rfl, bel_step hBV g13⟩
      · have pa : pok p0 q0 = false := by simpa using pa
        go_wp2
        go_ret
        exact ⟨rfl, bel_step hBV g12⟩
  · have hbig : decide (1048576 < (n : Int)) = true := by simp; omega
    go_enter Try.func3, Try.ntmps3
    go_wp2_with fail
    refine (big_any _ _ _ _).mono ?_
    rintro e w1 ⟨rfl, rfl⟩
    rw [hbig]
    go_wp2
    go_ret
    exact ⟨rfl, Bel.refl _⟩


theorem fnTurns_own : ownKnob Try.prog.godebug = none := by kernel_rfl
theorem fnTurns_laidOut : laidOutB Try.prog = true := by kernel_rfl

set_option maxRecDepth 100000 in
theorem fnTurns_lifted (os : Os) (started : os.Started) (H : Type) (enc : TypeId × Value → H) :
    ReturnsInHanded {} Try.checked os 3 .any (Rows.fnTurnsSpec.pre6 enc Try.prog Try.f3 Rows.fnTurnsRow.domain false) (Rows.fnTurnsSpec.post enc Try.prog Try.f3 false true false false) := by
  refine returnsInHanded_of_change (C := Try.checked) fnTurns_own started (by kernel_rfl) Try.func3
    (ChangeSpec.witness6 (enc := enc) (C := Try.checked) false ⟨#[], #[.slice none 0 0], []⟩ 8 (by kernel_rfl) (by kernel_rfl) (by kernel_rfl) (by kernel_rfl)) ?_
  intro W base args ds gs before hval0 hW hcnd _
  have hval : ∀ (j : Nat) t v, Try.f3.params[j]? = some t → args[j]? = some v → Value.okWide Try.prog W .any base t v := hval0
  have hW' := hW
  obtain ⟨p, q, hA0, hV, rfl, hfz, hnd⟩ := hW
  have hA : DataW.TrodAll enc Try.prog W 0 (fun _ => true) true Try.f3.params.toList args.toList ds p := hA0
  rw [Try.params3] at hA hval
  obtain ⟨v0, vs0, d0, ds0, p0, q0, hargs, rfl, rfl, h0, r0⟩ := trodAll_cons hA
  obtain ⟨rfl, rfl, rfl⟩ := trodAll_nil r0
  obtain rfl : args = #[v0] := by cases args; simp_all
  obtain ⟨rfl, rfl⟩ := trodVars_none hV
  have k0 := h0
  have lt0 : ∀ x ∈ p0, x.block < W.heap.size := by obtain ⟨m, hm⟩ := k0; exact DataW.trod_lt m _ _ _ hm
  obtain ⟨a0, n0, c0, rfl, ip0, im0⟩ := open_bytes (hval 0 22 v0 rfl rfl) h0
  clear hA0 hval0
  refine (lawFnTurns_any a0 n0 c0 W ip0 im0).mono fun e W' ⟨he, bel0⟩ => ?_
  have bel := bel0.out
  subst he
  exact ⟨_, rfl, _, _, _, [], _, [], hW', trodAll_mk1 (shut_bool Try.underlying4 _), (trodAll_cons_mk (Below.trod fnTurns_laidOut (by kernel_rfl) (of_decide_eq_true (by kernel_rfl)) k0 bel lt0) trodAll_mk0), rfl, bel.frame _, fun h => by cases h⟩

theorem fnTurns_over : Rows.fnTurnsRow.holds Try.pinned (OpenSpec.ofChange Rows.fnTurnsSpec) :=
  OpenClaim.holds_of_wide 3 Try.f3 rfl rfl rfl rfl rfl rfl rfl ⟨rfl, rfl, rfl, rfl, rfl⟩ rfl rfl rfl rfl rfl (by kernel_rfl) Try.func3 (by kernel_rfl)
    (of_decide_eq_true (by kernel_rfl)) (by unfold Func.isWrapper; first | (rw [if_pos (by decide +kernel)]; kernel_rfl) | (rw [if_neg (by decide +kernel)]; exact ⟨rfl, rfl⟩))
    (fun os started H enc _ => fnTurns_lifted os started H enc)

theorem fnTurns_holds : Rows.FnTurnsSaid := fnTurns_over
#print axioms fnTurns_holds
end Go.Proofs.Ytkncogipffofeaa
