/-
  PROVED: for every three points Turn answers as its model does. No condition.
-/
import Derived.Test.YtoeaplcijdlhnaaTurnC
namespace Go.Proofs.Ytoeaplcijdlhnaa
open Go.ChangeShapes Go.WideShapes Go.ChangeAt Go.RowKit

set_option maxHeartbeats 1000000 in
theorem lawFnExactTurn_any (x0 y0 x1 y1 x2 y2 : Int) (w : World) (_wx0 : (Lit.int .i64 x0).wf = true) (_wy0 : (Lit.int .i64 y0).wf = true) (_wx1 : (Lit.int .i64 x1).wf = true) (_wy1 : (Lit.int .i64 y1).wf = true) (_wx2 : (Lit.int .i64 x2).wf = true) (_wy2 : (Lit.int .i64 y2).wf = true) :
    Calls Try.prog 7 #[pt x0 y0, pt x1 y1, pt x2 y2] w fun e w' => e = .returned (.bool true) ∧ Bel w w' := by
  have hR := bx3_cells 23 w x0 y0 x1 y1 x2 y2
  have g0 : Bel (bx3 23 w x0 y0 x1 y1 x2 y2) (bx3 23 w x0 y0 x1 y1 x2 y2) := Bel.refl _
  go_enter Try.func7, Try.ntmps7
  go_wp2
  go_region_held3 (fun w' => Bel (bx3 23 w x0 y0 x1 y1 x2 y2) w') (repeat (first | exact g0 | refine Bel.drew ?_ | assumption | refine bel_then (by assumption) ?_))
    (first
      | (go_at_call 13; refine (toPoint_any _ _ _).mono ?_; rintro e w' ⟨rfl, hbk⟩)
      | (go_at_call 24; refine (specTurn_any _ _ _ _ _ _ _).mono ?_; rintro e w' ⟨rfl, hbk⟩))
  have hH1 : Bel (bx3 23 w x0 y0 x1 y1 x2 y2) w' := by assumption
  go_wp2
  go_region_held3 (fun w' => Bel (bx3 23 w x0 y0 x1 y1 x2 y2) w') (repeat (first | exact hH1 | refine Bel.drew ?_ | assumption | refine bel_then (by assumption) ?_))
    (first
      | (go_at_call 13; refine (toPoint_any _ _ _).mono ?_; rintro e w' ⟨rfl, hbk⟩)
      | (go_at_call 25; refine (turn_any _ _ _ _ _ _ _).mono ?_; rintro e w' ⟨rfl, hbk⟩))
  have hH2 : Bel (bx3 23 w x0 y0 x1 y1 x2 y2) w' := by assumption
  go_wp2
  go_ret
  exact ⟨rfl, bel_step (bx3_bel 23 w x0 y0 x1 y1 x2 y2) hH2⟩

theorem fnExactTurn_own : ownKnob Try.prog.godebug = none := by kernel_rfl
theorem fnExactTurn_laidOut : laidOutB Try.prog = true := by kernel_rfl

set_option maxRecDepth 100000 in
theorem fnExactTurn_lifted (os : Os) (started : os.Started) (H : Type) (enc : TypeId × Value → H) :
    ReturnsInHanded {} Try.checked os 7 .any (Rows.fnExactTurnSpec.pre6 enc Try.prog Try.f7 Rows.fnExactTurnRow.domain false) (Rows.fnExactTurnSpec.post enc Try.prog Try.f7 false true false false) := by
  refine returnsInHanded_of_change (C := Try.checked) fnExactTurn_own started (by kernel_rfl) Try.func7
    (ChangeSpec.witness6 (enc := enc) (C := Try.checked) false ⟨#[], #[.agg #[.int .i64 0, .int .i64 0], .agg #[.int .i64 0, .int .i64 0], .agg #[.int .i64 0, .int .i64 0]], []⟩ 8 (by kernel_rfl) (by kernel_rfl) (by kernel_rfl) (by kernel_rfl)) ?_
  intro W base args ds gs before hval0 hW hcnd _
  have hval : ∀ (j : Nat) t v, Try.f7.params[j]? = some t → args[j]? = some v → Value.okWide Try.prog W .any base t v := hval0
  have hW' := hW
  obtain ⟨p, q, hA0, hV, rfl, hfz, hnd⟩ := hW
  have hA : DataW.TrodAll enc Try.prog W 0 (fun _ => true) true Try.f7.params.toList args.toList ds p := hA0
  rw [Try.params7] at hA hval
  obtain ⟨v0, vs0, d0, ds0, p0, q0, hargs, rfl, rfl, h0, r0⟩ := trodAll_cons hA
  obtain ⟨v1, vs1, d1, ds1, p1, q1, rfl, rfl, rfl, h1, r1⟩ := trodAll_cons r0
  obtain ⟨v2, vs2, d2, ds2, p2, q2, rfl, rfl, rfl, h2, r2⟩ := trodAll_cons r1
  obtain ⟨rfl, rfl, rfl⟩ := trodAll_nil r2
  obtain rfl : args = #[v0, v1, v2] := by cases args; simp_all
  obtain ⟨rfl, rfl⟩ := trodVars_none hV
  have k0 := h0
  have lt0 : ∀ x ∈ p0, x.block < W.heap.size := by obtain ⟨m, hm⟩ := k0; exact DataW.trod_lt m _ _ _ hm
  obtain ⟨x0, y0, rfl, wx0, wy0⟩ := open_pt (hval 0 23 v0 rfl rfl) h0
  have k1 := h1
  have lt1 : ∀ x ∈ p1, x.block < W.heap.size := by obtain ⟨m, hm⟩ := k1; exact DataW.trod_lt m _ _ _ hm
  obtain ⟨x1, y1, rfl, wx1, wy1⟩ := open_pt (hval 1 23 v1 rfl rfl) h1
  have k2 := h2
  have lt2 : ∀ x ∈ p2, x.block < W.heap.size := by obtain ⟨m, hm⟩ := k2; exact DataW.trod_lt m _ _ _ hm
  obtain ⟨x2, y2, rfl, wx2, wy2⟩ := open_pt (hval 2 23 v2 rfl rfl) h2
  clear hA0 hval0
  refine (lawFnExactTurn_any x0 y0 x1 y1 x2 y2 W wx0 wy0 wx1 wy1 wx2 wy2).mono fun e W' ⟨he, bel0⟩ => ?_
  have bel := bel0.out
  subst he
  exact ⟨_, rfl, _, _, _, [], _, [], hW', trodAll_mk1 (shut_bool Try.underlying4 _), (trodAll_cons_mk (Below.trod fnExactTurn_laidOut (by kernel_rfl) (of_decide_eq_true (by kernel_rfl)) k0 bel lt0) (trodAll_cons_mk (Below.trod fnExactTurn_laidOut (by kernel_rfl) (of_decide_eq_true (by kernel_rfl)) k1 bel lt1) (trodAll_cons_mk (Below.trod fnExactTurn_laidOut (by kernel_rfl) (of_decide_eq_true (by kernel_rfl)) k2 bel lt2) trodAll_mk0))), rfl, bel.frame _, fun h => by cases h⟩

theorem fnExactTurn_over : Rows.fnExactTurnRow.holds Try.pinned (OpenSpec.ofChange Rows.fnExactTurnSpec) :=
  OpenClaim.holds_of_wide 7 Try.f7 rfl rfl rfl rfl rfl rfl rfl ⟨rfl, rfl, rfl, rfl, rfl⟩ rfl rfl rfl rfl rfl (by kernel_rfl) Try.func7 (by kernel_rfl)
    (of_decide_eq_true (by kernel_rfl)) (by unfold Func.isWrapper; first | (rw [if_pos (by decide +kernel)]; kernel_rfl) | (rw [if_neg (by decide +kernel)]; exact ⟨rfl, rfl⟩))
    (fun os started H enc _ => fnExactTurn_lifted os started H enc)

theorem fnExactTurn_holds : Rows.FnExactTurnSaid := fnExactTurn_over
#print axioms fnExactTurn_holds
end Go.Proofs.Ytoeaplcijdlhnaa
