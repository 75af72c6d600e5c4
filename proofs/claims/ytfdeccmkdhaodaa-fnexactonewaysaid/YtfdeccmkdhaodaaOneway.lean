/-
  PROVED: for every list of tags and every kind Oneway answers as its model does, and the list that was handed in stays as it was. No condition.
-/
import Derived.Test.YtfdeccmkdhaodaaOnewayL
import Derived.Test.YtfdeccmkdhaodaaOpenD
import Derived.Test.YtfdeccmkdhaodaaOpen
namespace Go.Proofs.Ytfdeccmkdhaodaa
open Go.ChangeShapes Go.WideShapes Go.ChangeAt Go.RowKit

theorem fnExactOneway_own : ownKnob Try.prog.godebug = none := by kernel_rfl
theorem fnExactOneway_laidOut : laidOutB Try.prog = true := by kernel_rfl

set_option maxRecDepth 100000 in
theorem fnExactOneway_lifted (os : Os) (started : os.Started) (H : Type) (enc : TypeId × Value → H) :
    ReturnsInHanded {} Try.checked os 4 .any (Rows.fnExactOnewaySpec.pre6 enc Try.prog Try.f4 Rows.fnExactOnewayRow.domain false) (Rows.fnExactOnewaySpec.post enc Try.prog Try.f4 false true false false) := by
  refine returnsInHanded_of_change (C := Try.checked) fnExactOneway_own started (by kernel_rfl) Try.func4
    (ChangeSpec.witness6 (enc := enc) (C := Try.checked) false ⟨#[], #[.slice none 0 0, .int .i64 0], []⟩ 8 (by kernel_rfl) (by kernel_rfl) (by kernel_rfl) (by kernel_rfl)) ?_
  intro W base args ds gs before hval0 hW hcnd _
  have hval : ∀ (j : Nat) t v, Try.f4.params[j]? = some t → args[j]? = some v → Value.okWide Try.prog W .any base t v := hval0
  have hW' := hW
  obtain ⟨p, q, hA0, hV, rfl, hfz, hnd⟩ := hW
  have hA : DataW.TrodAll enc Try.prog W 0 (fun _ => true) true Try.f4.params.toList args.toList ds p := hA0
  rw [Try.params4] at hA hval
  obtain ⟨v0, vs0, d0, ds0, p0, q0, hargs, rfl, rfl, h0, r0⟩ := trodAll_cons hA
  obtain ⟨v1, vs1, d1, ds1, p1, q1, rfl, rfl, rfl, h1, r1⟩ := trodAll_cons r0
  obtain ⟨rfl, rfl, rfl⟩ := trodAll_nil r1
  obtain rfl : args = #[v0, v1] := by cases args; simp_all
  obtain ⟨rfl, rfl⟩ := trodVars_none hV
  have k0 := h0
  have lt0 : ∀ x ∈ p0, x.block < W.heap.size := by obtain ⟨m, hm⟩ := k0; exact DataW.trod_lt m _ _ _ hm
  obtain ⟨a0, c0, l0, bs0, rfl, ip0, im0⟩ := open_tags (hval 0 37 v0 rfl rfl) h0
  have k1 := h1
  have lt1 : ∀ x ∈ p1, x.block < W.heap.size := by obtain ⟨m, hm⟩ := k1; exact DataW.trod_lt m _ _ _ hm
  obtain ⟨x1, rfl, _, _, wx1⟩ := open_int Try.underlying2 (hval 1 2 v1 rfl rfl) h1
  clear hA0 hval0
  refine (lawFnExactOneway_any a0 c0 l0 bs0 x1 W ip0 im0 wx1).mono fun e W' ⟨he, bel0⟩ => ?_
  have bel := bel0.out
  subst he
  exact ⟨_, rfl, _, _, _, [], _, [], hW', trodAll_mk1 (shut_bool Try.underlying4 _), (trodAll_cons_mk (Below.trod fnExactOneway_laidOut (by kernel_rfl) (of_decide_eq_true (by kernel_rfl)) k0 bel lt0) (trodAll_cons_mk (Below.trod fnExactOneway_laidOut (by kernel_rfl) (of_decide_eq_true (by kernel_rfl)) k1 bel lt1) trodAll_mk0)), rfl, bel.frame _, fun h => by cases h⟩

theorem fnExactOneway_j1 : (Rows.fnExactOnewayRow.inPlace == Try.prog.inPlace 4) = true := by kernel_rfl
theorem fnExactOneway_j2 : (Rows.fnExactOnewayRow.unfollowed == Try.prog.unfollowed 4) = true := by kernel_rfl
theorem fnExactOneway_j3 : (Rows.fnExactOnewayRow.recurses == Try.prog.recurses 4) = true := by kernel_rfl
theorem fnExactOneway_j4 : (Rows.fnExactOnewayRow.named == Try.prog.varsNamed 4) = true := by kernel_rfl
theorem fnExactOneway_closed : joinedFacts Try.prog 4 Try.f4 Rows.fnExactOnewaySpec Rows.fnExactOnewayRow = true := by
  unfold joinedFacts
  rw [fnExactOneway_j1, fnExactOneway_j2, fnExactOneway_j3, fnExactOneway_j4]
  kernel_rfl

theorem fnExactOneway_over : Rows.fnExactOnewayRow.holds Try.pinned (OpenSpec.ofChange Rows.fnExactOnewaySpec) :=
  OpenClaim.holds_of_wide 4 Try.f4 rfl rfl rfl rfl rfl rfl rfl ⟨rfl, rfl, rfl, rfl, rfl⟩ rfl rfl rfl rfl rfl (by kernel_rfl) Try.func4 fnExactOneway_closed
    (of_decide_eq_true (by kernel_rfl)) (by unfold Func.isWrapper; first | (rw [if_pos (by decide +kernel)]; kernel_rfl) | (rw [if_neg (by decide +kernel)]; exact ⟨rfl, rfl⟩))
    (fun os started H enc _ => fnExactOneway_lifted os started H enc)

theorem fnExactOneway_holds : Rows.FnExactOnewaySaid := fnExactOneway_over
#print axioms fnExactOneway_holds
end Go.Proofs.Ytfdeccmkdhaodaa
