/-
  PROVED: for every row and every point Near answers as its model does, field by field, and the row that was handed in stays as it was. No condition.
-/
import Derived.Test.YtoeaplcijdlhnaaNearJ
import Derived.Test.YtoeaplcijdlhnaaOpenS
namespace Go.Proofs.Ytoeaplcijdlhnaa
open Go.ChangeShapes Go.WideShapes Go.ChangeAt Go.RowKit

set_option maxRecDepth 100000 in
set_option maxHeartbeats 4000000 in
theorem lawFnExactNear_any (a : Option Addr) (n c : Nat) (X Y : Nat → Int) (px py : Int) (w : World) (hP : Pts w a n X Y) (hm : n ≤ 9223372036854775807) (_wx : (Lit.int .i64 px).wf = true) (_wy : (Lit.int .i64 py).wf = true) :
    Calls Try.prog 9 #[.slice a n c, pt px py] w fun e w' => e = .returned (.bool true) ∧ Bel w w' := by
  have hW : Bel w (w.alloc (.cells #[.int .i64 px, .int .i64 py] 23)) := bel_alloc (Bel.refl _) _
  have hA := PtAt.new w px py 23
  by_cases hn : n ≤ 1048576
  · go_enter Try.func9, Try.ntmps9
    go_wp2_with fail
    refine (sz_fits _ _ _ _ hn).mono ?_
    rintro e w1 ⟨rfl, rfl⟩
    generalize hWd : w.alloc (.cells #[.int .i64 px, .int .i64 py] 23) = W at *
    have hR : ∀ w', Bel W w' → w'.cell? ⟨w.heap.size, 0, none⟩ = some (.int .i64 px) ∧ w'.cell? ⟨w.heap.size, 1, none⟩ = some (.int .i64 py) := fun w' h => ⟨(hA.bel h).c0, (hA.bel h).c1⟩
    have g0 : Bel W W := Bel.refl _
    have HP : Hid (Pts W a n X Y) := hP.bel hW
    have HA : Hid (PtAt W w.heap.size px py) := hA
    clear hP hA
    go_wp2
    go_cut [6] (fun t wx => ∃ B, t = .pointer (some ⟨B, 0, none⟩) ∧ Five wx B (nq n X Y px py 0) (nq n X Y px py 1) (nq n X Y px py 2) (nq n X Y px py 3) (nq n X Y px py 4) ∧ Bel W wx)
    case first =>
      go_region_held3 (fun w' => Bel W w') (with_reducible (repeat (first | exact g0 | refine Bel.drew ?_ | refine bel_alloc ?_ _ | refine bel_set ?_ (Nat.le_refl _) _ | refine bel_set2 ?_ (by assumption) _ | assumption | refine bel_then (by assumption) ?_)))
        (first
          | (go_at_call 21; refine (toPointS_any _ _ _ X Y _ (HP.out.bel (by with_reducible (repeat (first | exact Bel.refl _ | exact g0 | refine Bel.drew ?_ | refine bel_alloc ?_ _)))) hn).mono ?_; rintro e w' ⟨rfl, hrow, hbk⟩; simp at hrow; refine (fun hS : Bel W w' => ?_) (bel_step (by with_reducible assumption) hbk); (first | (refine (fun hz' : Five w' _ 0 0 0 0 0 => ?_) (Five.bel (Five.new _ 0 0 0 0 0 44) (bel_step (Bel.refl _) hbk)); (try clear hz); have hz := hz'; clear hz') | (refine (fun hz' : Five w' _ 0 0 0 0 0 => ?_) (Five.bel (Five.new _ 0 0 0 0 0 44) (bel_step (Bel.drew (Bel.refl _)) hbk)); (try clear hz); have hz := hz'; clear hz') | (refine (fun hz' : Five w' _ 0 0 0 0 0 => ?_) (Five.bel hz (bel_step (Bel.refl _) hbk)); (try clear hz); have hz := hz'; clear hz') | (refine (fun hz' : Five w' _ 0 0 0 0 0 => ?_) (Five.bel hz (bel_step (Bel.drew (Bel.refl _)) hbk)); (try clear hz); have hz := hz'; clear hz') | skip))
          | (go_at_call 13; refine (toPoint_any _ _ _).mono ?_; rintro e w' ⟨rfl, hbk⟩; refine (fun hS : Bel W w' => ?_) (bel_step (by with_reducible assumption) hbk); refine (fun hrow2 : Row w' _ n n X Y => ?_) (Row.bel hrow (bel_step (by with_reducible (repeat (first | exact Bel.refl _ | exact g0 | refine Bel.drew ?_ | refine bel_alloc ?_ _))) hbk)); clear hrow; have hrow := hrow2; clear hrow2; (first | (refine (fun hz' : Five w' _ 0 0 0 0 0 => ?_) (Five.bel (Five.new _ 0 0 0 0 0 44) (bel_step (Bel.refl _) hbk)); (try clear hz); have hz := hz'; clear hz') | (refine (fun hz' : Five w' _ 0 0 0 0 0 => ?_) (Five.bel (Five.new _ 0 0 0 0 0 44) (bel_step (Bel.drew (Bel.refl _)) hbk)); (try clear hz); have hz := hz'; clear hz') | (refine (fun hz' : Five w' _ 0 0 0 0 0 => ?_) (Five.bel hz (bel_step (Bel.refl _) hbk)); (try clear hz); have hz := hz'; clear hz') | (refine (fun hz' : Five w' _ 0 0 0 0 0 => ?_) (Five.bel hz (bel_step (Bel.drew (Bel.refl _)) hbk)); (try clear hz); have hz := hz'; clear hz') | skip))
          | (go_at_call 28; refine (specNear_any _ _ _ X Y px py _ (Row.pts (Row.bel hrow (by with_reducible (repeat (first | exact Bel.refl _ | exact g0 | refine Bel.drew ?_ | refine bel_alloc ?_ _))))) hn).mono ?_; rintro e w' ⟨rfl, hbk⟩; refine (fun hS : Bel W w' => ?_) (bel_step (by with_reducible assumption) hbk); (first | (refine (fun hz' : Five w' _ 0 0 0 0 0 => ?_) (Five.bel (Five.new _ 0 0 0 0 0 44) (bel_step (Bel.refl _) hbk)); (try clear hz); have hz := hz'; clear hz'; have HQ : Hid (Room w' _ 5) := hz.room; obtain ⟨el, e0, e1, e2, e3, e4, ef⟩ := hz; have e5 := ef 0; have e6 := ef 1; have e7 := ef 2; have e8 := ef 3; have e9 := ef 4; clear ef) | (refine (fun hz' : Five w' _ 0 0 0 0 0 => ?_) (Five.bel (Five.new _ 0 0 0 0 0 44) (bel_step (Bel.drew (Bel.refl _)) hbk)); (try clear hz); have hz := hz'; clear hz'; have HQ : Hid (Room w' _ 5) := hz.room; obtain ⟨el, e0, e1, e2, e3, e4, ef⟩ := hz; have e5 := ef 0; have e6 := ef 1; have e7 := ef 2; have e8 := ef 3; have e9 := ef 4; clear ef) | (refine (fun hz' : Five w' _ 0 0 0 0 0 => ?_) (Five.bel hz (bel_step (Bel.refl _) hbk)); (try clear hz); have hz := hz'; clear hz'; have HQ : Hid (Room w' _ 5) := hz.room; obtain ⟨el, e0, e1, e2, e3, e4, ef⟩ := hz; have e5 := ef 0; have e6 := ef 1; have e7 := ef 2; have e8 := ef 3; have e9 := ef 4; clear ef) | (refine (fun hz' : Five w' _ 0 0 0 0 0 => ?_) (Five.bel hz (bel_step (Bel.drew (Bel.refl _)) hbk)); (try clear hz); have hz := hz'; clear hz'; have HQ : Hid (Room w' _ 5) := hz.room; obtain ⟨el, e0, e1, e2, e3, e4, ef⟩ := hz; have e5 := ef 0; have e6 := ef 1; have e7 := ef 2; have e8 := ef 3; have e9 := ef 4; clear ef) | skip)))
      all_goals
        go_wp2_with fail
        go_meet
        case rel =>
          refine ⟨_, rfl, ?_, by with_reducible assumption⟩
          first | with_reducible exact Five.new _ _ _ _ _ _ _ | exact HQ.out.put5 _ _ _ _ _
    case rest =>
      clear hR g0
      obtain ⟨B, rfl, hF, hB3⟩ := hcut
      go_wp2_with fail
      refine (toPointS_any _ _ _ X Y _ (HP.out.bel hB3) hn).mono ?_
      rintro e w4 ⟨rfl, r4, hb4⟩
      have hB4 := bel_step hB3 hb4
      have p1 := (HA.out.bel hB4).c0
      have p2 := (HA.out.bel hB4).c1
      go_wp2_with fail
      refine (toPoint_any _ _ _).mono ?_
      rintro e w5 ⟨rfl, hb5⟩
      have hB5 := bel_step hB4 hb5
      have r5 := r4.bel hb5
      go_wp2_with fail
      refine (near_any _ _ _ X Y px py _ r5.pts hn).mono ?_
      rintro e w6 ⟨rfl, hb6⟩
      have hB6 := bel_alloc (bel_step hB5 hb6) (.cells #[.int .i64 (nq n X Y px py 0), .int .i64 (nq n X Y px py 1), .int .i64 (nq n X Y px py 2), .int .i64 (nq n X Y px py 3), .int .i64 (nq n X Y px py 4)] 44)
      have r6 := r5.bel (bel_alloc hb6 (.cells #[.int .i64 (nq n X Y px py 0), .int .i64 (nq n X Y px py 1), .int .i64 (nq n X Y px py 2), .int .i64 (nq n X Y px py 3), .int .i64 (nq n X Y px py 4)] 44))
      obtain ⟨fl, f0, f1, f2, f3, f4, _⟩ := hF.bel (bel_step hb4 (bel_step hb5 hb6))
      clear p1 p2 hB5 hB4 hb5 hb6 r4 r5 hF
      go_wp2_with fail
      refine (eqFoot_same _ _ _ _ _ _).mono ?_
      rintro e w7 ⟨rfl, hb7⟩
      have hB7 := bel_step hB6 hb7
      have r7 := r6.bel hb7
      clear r6 hB6 hb7 fl f0 f1 f2 f3 f4
      go_wp2_with fail
      refine (toPointS_any _ _ _ X Y _ (HP.out.bel hB7) hn).mono ?_
      rintro e w8 ⟨rfl, r8, hb8⟩
      go_wp2_with fail
      refine (eqPointS_same _ _ _ _ _ X Y _ (r7.bel hb8).pts r8.pts hn).mono ?_
      rintro e w9 ⟨rfl, hb9⟩
      go_wp2
      go_ret
      exact ⟨rfl, bel_step (bel_step (bel_step hW hB7) hb8) hb9⟩
  · go_enter Try.func9, Try.ntmps9
    go_wp2_with fail
    refine (sz_not _ _ _ _ (by omega) hm).mono ?_
    rintro e w1 ⟨rfl, rfl⟩
    go_wp2
    go_ret
    exact ⟨rfl, hW⟩

theorem fnExactNear_own : ownKnob Try.prog.godebug = none := by kernel_rfl
theorem fnExactNear_laidOut : laidOutB Try.prog = true := by kernel_rfl

set_option maxRecDepth 100000 in
theorem fnExactNear_lifted (os : Os) (started : os.Started) (H : Type) (enc : TypeId × Value → H) :
    ReturnsInHanded {} Try.checked os 9 .any (Rows.fnExactNearSpec.pre6 enc Try.prog Try.f9 Rows.fnExactNearRow.domain false) (Rows.fnExactNearSpec.post enc Try.prog Try.f9 false true false false) := by
  refine returnsInHanded_of_change (C := Try.checked) fnExactNear_own started (by kernel_rfl) Try.func9
    (ChangeSpec.witness6 (enc := enc) (C := Try.checked) false ⟨#[], #[.slice none 0 0, .agg #[.int .i64 0, .int .i64 0]], []⟩ 8 (by kernel_rfl) (by kernel_rfl) (by kernel_rfl) (by kernel_rfl)) ?_
  intro W base args ds gs before hval0 hW hcnd _
  have hval : ∀ (j : Nat) t v, Try.f9.params[j]? = some t → args[j]? = some v → Value.okWide Try.prog W .any base t v := hval0
  have hW' := hW
  obtain ⟨p, q, hA0, hV, rfl, hfz, hnd⟩ := hW
  have hA : DataW.TrodAll enc Try.prog W 0 (fun _ => true) true Try.f9.params.toList args.toList ds p := hA0
  rw [Try.params9] at hA hval
  obtain ⟨v0, vs0, d0, ds0, p0, q0, hargs, rfl, rfl, h0, r0⟩ := trodAll_cons hA
  obtain ⟨v1, vs1, d1, ds1, p1, q1, rfl, rfl, rfl, h1, r1⟩ := trodAll_cons r0
  obtain ⟨rfl, rfl, rfl⟩ := trodAll_nil r1
  obtain rfl : args = #[v0, v1] := by cases args; simp_all
  obtain ⟨rfl, rfl⟩ := trodVars_none hV
  have k0 := h0
  have lt0 : ∀ x ∈ p0, x.block < W.heap.size := by obtain ⟨m, hm⟩ := k0; exact DataW.trod_lt m _ _ _ hm
  obtain ⟨a0, n0, c0, X0, Y0, rfl, ip0, im0⟩ := open_pts (hval 0 32 v0 rfl rfl) h0
  have k1 := h1
  have lt1 : ∀ x ∈ p1, x.block < W.heap.size := by obtain ⟨m, hm⟩ := k1; exact DataW.trod_lt m _ _ _ hm
  obtain ⟨x1, y1, rfl, wx1, wy1⟩ := open_pt (hval 1 23 v1 rfl rfl) h1
  clear hA0 hval0
  refine (lawFnExactNear_any a0 n0 c0 X0 Y0 x1 y1 W ip0 im0 wx1 wy1).mono fun e W' ⟨he, bel0⟩ => ?_
  have bel := bel0.out
  subst he
  exact ⟨_, rfl, _, _, _, [], _, [], hW', trodAll_mk1 (shut_bool Try.underlying4 _), (trodAll_cons_mk (Below.trod fnExactNear_laidOut (by kernel_rfl) (of_decide_eq_true (by kernel_rfl)) k0 bel lt0) (trodAll_cons_mk (Below.trod fnExactNear_laidOut (by kernel_rfl) (of_decide_eq_true (by kernel_rfl)) k1 bel lt1) trodAll_mk0)), rfl, bel.frame _, fun h => by cases h⟩

theorem fnExactNear_over : Rows.fnExactNearRow.holds Try.pinned (OpenSpec.ofChange Rows.fnExactNearSpec) :=
  OpenClaim.holds_of_wide 9 Try.f9 rfl rfl rfl rfl rfl rfl rfl ⟨rfl, rfl, rfl, rfl, rfl⟩ rfl rfl rfl rfl rfl (by kernel_rfl) Try.func9 (by kernel_rfl)
    (of_decide_eq_true (by kernel_rfl)) (by unfold Func.isWrapper; first | (rw [if_pos (by decide +kernel)]; kernel_rfl) | (rw [if_neg (by decide +kernel)]; exact ⟨rfl, rfl⟩))
    (fun os started H enc _ => fnExactNear_lifted os started H enc)

theorem fnExactNear_holds : Rows.FnExactNearSaid := fnExactNear_over
#print axioms fnExactNear_holds
end Go.Proofs.Ytoeaplcijdlhnaa
