/-
  PROVED: for every graph and every fleet FleetOk answers as its model does, and what was handed in stays as it was. No condition.
-/
import Derived.Test.YtgakdeaniojleaaFleetOkL
namespace Go.Proofs.Ytgakdeaniojleaa
open Go.ChangeShapes Go.WideShapes Go.ChangeAt Go.RowKit

theorem fnExactFleetOk_own : ownKnob Try.prog.godebug = none := by kernel_rfl
theorem fnExactFleetOk_laidOut : laidOutB Try.prog = true := by kernel_rfl

set_option maxRecDepth 100000 in
theorem fnExactFleetOk_lifted (os : Os) (started : os.Started) (H : Type) (enc : TypeId × Value → H) :
    ReturnsInHanded {} Try.checked os 3 .any (Rows.fnExactFleetOkSpec.pre6 enc Try.prog Try.f3 Rows.fnExactFleetOkRow.domain false) (Rows.fnExactFleetOkSpec.post enc Try.prog Try.f3 false true false false) := by
  refine returnsInHanded_of_change (C := Try.checked) fnExactFleetOk_own started (by kernel_rfl) Try.func3
    (ChangeSpec.witness6 (enc := enc) (C := Try.checked) false ⟨#[], #[.agg #[.slice none 0 0, .slice none 0 0, .slice none 0 0], .agg #[.int .i64 0, .int .i64 0, .int .i64 0, .int .i64 0, .slice none 0 0]], []⟩ 8 (by kernel_rfl) (by kernel_rfl) (by kernel_rfl) (by kernel_rfl)) ?_
  intro W base args ds gs before hval0 hW hcnd _
  have hval : ∀ (j : Nat) t v, Try.f3.params[j]? = some t → args[j]? = some v → Value.okWide Try.prog W .any base t v := hval0
  have hW' := hW
  obtain ⟨p, q, hA0, hV, rfl, hfz, hnd⟩ := hW
  have hA : DataW.TrodAll enc Try.prog W 0 (fun _ => true) true Try.f3.params.toList args.toList ds p := hA0
  rw [Try.params3] at hA hval
  obtain ⟨v0, vs0, d0, ds0, p0, q0, hargs, rfl, rfl, h0, r0⟩ := trodAll_cons hA
  obtain ⟨v1, vs1, d1, ds1, p1, q1, rfl, rfl, rfl, h1, r1⟩ := trodAll_cons r0
  obtain ⟨rfl, rfl, rfl⟩ := trodAll_nil r1
  obtain rfl : args = #[v0, v1] := by cases args; simp_all
  obtain ⟨rfl, rfl⟩ := trodVars_none hV
  have k0 := h0
  have lt0 : ∀ x ∈ p0, x.block < W.heap.size := by obtain ⟨m, hm⟩ := k0; exact DataW.trod_lt m _ _ _ hm
  obtain ⟨g0, bs0, iv0, im0⟩ := open_graph (hval 0 26 v0 rfl rfl) h0
  have k1 := h1
  have lt1 : ∀ x ∈ p1, x.block < W.heap.size := by obtain ⟨m, hm⟩ := k1; exact DataW.trod_lt m _ _ _ hm
  obtain ⟨f1, bs1, iv1, im1⟩ := open_fleet (hval 1 29 v1 rfl rfl) h1
  clear hA0 hval0
  refine (lawFnExactFleetOk_any v0 g0 bs0 v1 f1 bs1 W iv0 im0 iv1 im1).mono fun e W' ⟨he, bel0⟩ => ?_
  have bel := bel0.out
  subst he
  exact ⟨_, rfl, _, _, _, [], _, [], hW', trodAll_mk1 (shut_bool Try.underlying4 _), (trodAll_cons_mk (Below.trod fnExactFleetOk_laidOut (by kernel_rfl) (of_decide_eq_true (by kernel_rfl)) k0 bel lt0) (trodAll_cons_mk (Below.trod fnExactFleetOk_laidOut (by kernel_rfl) (of_decide_eq_true (by kernel_rfl)) k1 bel lt1) trodAll_mk0)), rfl, bel.frame _, fun h => by cases h⟩

theorem fnExactFleetOk_j1 : (Rows.fnExactFleetOkRow.inPlace == Try.prog.inPlace 3) = true := by kernel_rfl
theorem fnExactFleetOk_j2 : (Rows.fnExactFleetOkRow.unfollowed == Try.prog.unfollowed 3) = true := by kernel_rfl
theorem fnExactFleetOk_j3 : (Rows.fnExactFleetOkRow.recurses == Try.prog.recurses 3) = true := by kernel_rfl
theorem fnExactFleetOk_j4 : (Rows.fnExactFleetOkRow.named == Try.prog.varsNamed 3) = true := by kernel_rfl
theorem fnExactFleetOk_closed : joinedFacts Try.prog 3 Try.f3 Rows.fnExactFleetOkSpec Rows.fnExactFleetOkRow = true := by
  unfold joinedFacts
  rw [fnExactFleetOk_j1, fnExactFleetOk_j2, fnExactFleetOk_j3, fnExactFleetOk_j4]
  kernel_rfl

theorem fnExactFleetOk_over : Rows.fnExactFleetOkRow.holds Try.pinned (OpenSpec.ofChange Rows.fnExactFleetOkSpec) :=
  OpenClaim.holds_of_wide 3 Try.f3 rfl rfl rfl rfl rfl rfl rfl ⟨rfl, rfl, rfl, rfl, rfl⟩ rfl rfl rfl rfl rfl (by kernel_rfl) Try.func3 fnExactFleetOk_closed
    (of_decide_eq_true (by kernel_rfl)) (by unfold Func.isWrapper; first | (rw [if_pos (by decide +kernel)]; kernel_rfl) | (rw [if_neg (by decide +kernel)]; exact ⟨rfl, rfl⟩))
    (fun os started H enc _ => fnExactFleetOk_lifted os started H enc)

theorem fnExactFleetOk_holds : Rows.FnExactFleetOkSaid := fnExactFleetOk_over
#print axioms fnExactFleetOk_holds
end Go.Proofs.Ytgakdeaniojleaa
