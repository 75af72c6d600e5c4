/-
  PROVED: for every four points Cross answers as its model does. No condition.
-/
import Derived.Test.YtoeaplcijdlhnaaCrossP
namespace Go.Proofs.Ytoeaplcijdlhnaa
open Go.ChangeShapes Go.WideShapes Go.ChangeAt Go.RowKit

set_option maxHeartbeats 1000000 in
theorem lawFnExactCross_any (x0 y0 x1 y1 x2 y2 x3 y3 : Int) (w : World) (_wx0 : (Lit.int .i64 x0).wf = true) (_wy0 : (Lit.int .i64 y0).wf = true) (_wx1 : (Lit.int .i64 x1).wf = true) (_wy1 : (Lit.int .i64 y1).wf = true) (_wx2 : (Lit.int .i64 x2).wf = true) (_wy2 : (Lit.int .i64 y2).wf = true) (_wx3 : (Lit.int .i64 x3).wf = true) (_wy3 : (Lit.int .i64 y3).wf = true) :
    Calls Try.prog 8 #[pt x0 y0, pt x1 y1, pt x2 y2, pt x3 y3] w fun e w' => e = .returned (.bool true) ∧ Bel w w' := by
  have hR := bx4_cells 23 w x0 y0 x1 y1 x2 y2 x3 y3
  have g0 : Bel (bx4 23 w x0 y0 x1 y1 x2 y2 x3 y3) (bx4 23 w x0 y0 x1 y1 x2 y2 x3 y3) := Bel.refl _
  go_enter Try.func8, Try.ntmps8
  go_wp2
  go_region_held3 (fun w' => Bel (bx4 23 w x0 y0 x1 y1 x2 y2 x3 y3) w') (repeat (first | exact g0 | refine Bel.drew ?_ | assumption | refine bel_then (by assumption) ?_))
    (first
      | (go_at_call 13; refine (toPoint_any _ _ _).mono ?_; rintro e w' ⟨rfl, hbk⟩)
      | (go_at_call 26; refine (specCross_any _ _ _ _ _ _ _ _ _).mono ?_; rintro e w' ⟨rfl, hbk⟩))
  have hH1 : Bel (bx4 23 w x0 y0 x1 y1 x2 y2 x3 y3) w' := by assumption
  go_wp2
  go_region_held3 (fun w' => Bel (bx4 23 w x0 y0 x1 y1 x2 y2 x3 y3) w') (repeat (first | exact hH1 | refine Bel.drew ?_ | assumption | refine bel_then (by assumption) ?_))
    (first
      | (go_at_call 13; refine (toPoint_any _ _ _).mono ?_; rintro e w' ⟨rfl, hbk⟩)
      | (go_at_call 27; refine (cross_any _ _ _ _ _ _ _ _ _).mono ?_; rintro e w' ⟨rfl, hbk⟩))
  have hH2 : Bel (bx4 23 w x0 y0 x1 y1 x2 y2 x3 y3) w' := by assumption
  go_wp2
  go_ret
  exact ⟨rfl, bel_step (bx4_bel 23 w x0 y0 x1 y1 x2 y2 x3 y3) hH2⟩

theorem fnExactCross_own : ownKnob Try.prog.godebug = none := by kernel_rfl
theorem fnExactCross_laidOut : laidOutB Try.prog = true := by kernel_rfl

set_option maxRecDepth 100000 in
theorem fnExactCross_lifted (os : Os) (started : os.Started) (H : Type) (enc : TypeId × Value → H) :
    ReturnsInHanded {} Try.checked os 8 .any (Rows.fnExactCrossSpec.pre6 enc Try.prog Try.f8 Rows.fnExactCrossRow.domain false) (Rows.fnExactCrossSpec.post enc Try.prog Try.f8 false true false false) := by
  refine returnsInHanded_of_change (C := Try.checked) fnExactCross_own started (by kernel_rfl) Try.func8
    (ChangeSpec.witness6 (enc := enc) (C := Try.checked) false ⟨#[], #[.agg #[.int .i64 0, .int .i64 0], .agg #[.int .i64 0, .int .i64 0], .agg #[.int .i64 0, .int .i64 0], .agg #[.int .i64 0, .int .i64 0]], []⟩ 8 (by kernel_rfl) (by kernel_rfl) (by kernel_rfl) (by kernel_rfl)) ?_
  intro W base args ds gs before hval0 hW hcnd _
  have hval : ∀ (j : Nat) t v, Try.f8.params[j]? = some t → args[j]? = some v → Value.okWide Try.prog W .any base t v := hval0
  have hW' := hW
  obtain ⟨p, q, hA0, hV, rfl, hfz, hnd⟩ := hW
  have hA : DataW.TrodAll enc Try.prog W 0 (fun _ => true) true Try.f8.params.toList args.toList ds p := hA0
  rw [Try.params8] at hA hval
  obtain ⟨v0, vs0, d0, ds0, p0, q0, hargs, rfl, rfl, h0, r0⟩ := trodAll_cons hA
  obtain ⟨v1, vs1, d1, ds1, p1, q1, rfl, rfl, rfl, h1, r1⟩ := trodAll_cons r0
  obtain ⟨v2, vs2, d2, ds2, p2, q2, rfl, rfl, rfl, h2, r2⟩ := trodAll_cons r1
  obtain ⟨v3, vs3, d3, ds3, p3, q3, rfl, rfl, rfl, h3, r3⟩ := trodAll_cons r2
  obtain ⟨rfl, rfl, rfl⟩ := trodAll_nil r3
  obtain rfl : args = #[v0, v1, v2, v3] := by cases args; simp_all
  obtain ⟨rfl, rfl⟩ := trodVars_none hV
  have k0 := h0
  have lt0 : ∀ x ∈ p0, x.block < W.heap.size := by obtain ⟨m, hm⟩ := k0; exact DataW.trod_lt m _ _ _ hm
  obtain ⟨x0, y0, rfl, wx0, wy0⟩ := open_pt (hval 0 23 v0 rfl rfl) h0
  have k1 := h1
  have lt1 : ∀ x ∈ p1, x.block < W.heap.size := by obtain ⟨m, hm⟩ := k1; exact DataW.trod_lt m _ _ _ hm
  obtain ⟨x1, y1, rfl, wx1, wy1⟩ := open_pt (hval 1 23 v1 rfl rfl) h1
  have k2 := h2
  have lt2 : ∀ x ∈ p2, x.block < W.heap.size := by obtain ⟨m, hm⟩ := k2; exact DataW.trod_lt m _ _ _ hm
  obtain ⟨x2, y2, rfl, wx2, wy2⟩ := open_pt (hval 2 23 v2 rfl rfl) h2
  have k3 := h3
  have lt3 : ∀ x ∈ p3, x.block < W.heap.size := by obtain ⟨m, hm⟩ := k3; exact DataW.trod_lt m _ _ _ hm
  obtain ⟨x3, y3, rfl, wx3, wy3⟩ := open_pt (hval 3 23 v3 rfl rfl) h3
  clear hA0 hval0
  refine (lawFnExactCross_any x0 y0 x1 y1 x2 y2 x3 y3 W wx0 wy0 wx1 wy1 wx2 wy2 wx3 wy3).mono fun e W' ⟨he, bel0⟩ => ?_
  have bel := bel0.out
  subst he
  exact ⟨_, rfl, _, _, _, [], _, [], hW', trodAll_mk1 (shut_bool Try.underlying4 _), (trodAll_cons_mk (Below.trod fnExactCross_laidOut (by kernel_rfl) (of_decide_eq_true (by kernel_rfl)) k0 bel lt0) (trodAll_cons_mk (Below.trod fnExactCross_laidOut (by kernel_rfl) (of_decide_eq_true (by kernel_rfl)) k1 bel lt1) (trodAll_cons_mk (Below.trod fnExactCross_laidOut (by kernel_rfl) (of_decide_eq_true (by kernel_rfl)) k2 bel lt2) (trodAll_cons_mk (Below.trod fnExactCross_laidOut (by kernel_rfl) (of_decide_eq_true (by kernel_rfl)) k3 bel lt3) trodAll_mk0)))), rfl, bel.frame _, fun h => by cases h⟩

theorem fnExactCross_over : Rows.fnExactCrossRow.holds Try.pinned (OpenSpec.ofChange Rows.fnExactCrossSpec) :=
  OpenClaim.holds_of_wide 8 Try.f8 rfl rfl rfl rfl rfl rfl rfl ⟨rfl, rfl, rfl, rfl, rfl⟩ rfl rfl rfl rfl rfl (by kernel_rfl) Try.func8 (by kernel_rfl)
    (of_decide_eq_true (by kernel_rfl)) (by unfold Func.isWrapper; first | (rw [if_pos (by decide +kernel)]; kernel_rfl) | (rw [if_neg (by decide +kernel)]; exact ⟨rfl, rfl⟩))
    (fun os started H enc _ => fnExactCross_lifted os started H enc)

theorem fnExactCross_holds : Rows.FnExactCrossSaid := fnExactCross_over
#print axioms fnExactCross_holds
end Go.Proofs.Ytoeaplcijdlhnaa
