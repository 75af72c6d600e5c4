/-
  PROVED: for every graph and every number TurnsOf answers as its model does; the graph that was handed in stays as it was; the answer shares no memory with it nor with the answer of another call. No condition.
-/
import Derived.Test.YtfdeccmkdhaodaaTurnsOfL
import Derived.Test.YtfdeccmkdhaodaaOpen
namespace Go.Proofs.Ytfdeccmkdhaodaa
open Go.ChangeShapes Go.WideShapes Go.ChangeAt Go.RowKit

theorem fnExactTurnsOf_own : ownKnob Try.prog.godebug = none := by kernel_rfl
theorem fnExactTurnsOf_laidOut : laidOutB Try.prog = true := by kernel_rfl

set_option maxRecDepth 100000 in
theorem fnExactTurnsOf_lifted (os : Os) (started : os.Started) (H : Type) (enc : TypeId × Value → H) :
    ReturnsInHanded {} Try.checked os 5 .any (Rows.fnExactTurnsOfSpec.pre6 enc Try.prog Try.f5 Rows.fnExactTurnsOfRow.domain false) (Rows.fnExactTurnsOfSpec.post enc Try.prog Try.f5 false true false false) := by
  refine returnsInHanded_of_change (C := Try.checked) fnExactTurnsOf_own started (by kernel_rfl) Try.func5
    (ChangeSpec.witness6 (enc := enc) (C := Try.checked) false ⟨#[], #[.agg #[.slice none 0 0, .slice none 0 0, .slice none 0 0], .int .i64 0], []⟩ 8 (by kernel_rfl) (by kernel_rfl) (by kernel_rfl) (by kernel_rfl)) ?_
  intro W base args ds gs before hval0 hW hcnd _
  have hval : ∀ (j : Nat) t v, Try.f5.params[j]? = some t → args[j]? = some v → Value.okWide Try.prog W .any base t v := hval0
  have hW' := hW
  obtain ⟨p, q, hA0, hV, rfl, hfz, hnd⟩ := hW
  have hA : DataW.TrodAll enc Try.prog W 0 (fun _ => true) true Try.f5.params.toList args.toList ds p := hA0
  rw [Try.params5] at hA hval
  obtain ⟨v0, vs0, d0, ds0, p0, q0, hargs, rfl, rfl, h0, r0⟩ := trodAll_cons hA
  obtain ⟨v1, vs1, d1, ds1, p1, q1, rfl, rfl, rfl, h1, r1⟩ := trodAll_cons r0
  obtain ⟨rfl, rfl, rfl⟩ := trodAll_nil r1
  obtain rfl : args = #[v0, v1] := by cases args; simp_all
  obtain ⟨rfl, rfl⟩ := trodVars_none hV
  have k0 := h0
  have lt0 : ∀ x ∈ p0, x.block < W.heap.size := by obtain ⟨m, hm⟩ := k0; exact DataW.trod_lt m _ _ _ hm
  obtain ⟨g0, bs0, iv0, im0⟩ := open_graph (hval 0 26 v0 rfl rfl) h0
  have k1 := h1
  have lt1 : ∀ x ∈ p1, x.block < W.heap.size := by obtain ⟨m, hm⟩ := k1; exact DataW.trod_lt m _ _ _ hm
  obtain ⟨x1, rfl, _, _, wx1⟩ := open_int Try.underlying2 (hval 1 2 v1 rfl rfl) h1
  clear hA0 hval0
  refine (lawFnExactTurnsOf_any v0 g0 bs0 x1 W iv0 im0 wx1).mono fun e W' ⟨he, bel0⟩ => ?_
  have bel := bel0.out
  subst he
  exact ⟨_, rfl, _, _, _, [], _, [], hW', trodAll_mk1 (shut_bool Try.underlying4 _), (trodAll_cons_mk (Below.trod fnExactTurnsOf_laidOut (by kernel_rfl) (of_decide_eq_true (by kernel_rfl)) k0 bel lt0) (trodAll_cons_mk (Below.trod fnExactTurnsOf_laidOut (by kernel_rfl) (of_decide_eq_true (by kernel_rfl)) k1 bel lt1) trodAll_mk0)), rfl, bel.frame _, fun h => by cases h⟩

theorem fnExactTurnsOf_j1 : (Rows.fnExactTurnsOfRow.inPlace == Try.prog.inPlace 5) = true := by kernel_rfl
theorem fnExactTurnsOf_j2 : (Rows.fnExactTurnsOfRow.unfollowed == Try.prog.unfollowed 5) = true := by kernel_rfl
theorem fnExactTurnsOf_j3 : (Rows.fnExactTurnsOfRow.recurses == Try.prog.recurses 5) = true := by kernel_rfl
theorem fnExactTurnsOf_j4 : (Rows.fnExactTurnsOfRow.named == Try.prog.varsNamed 5) = true := by kernel_rfl
theorem fnExactTurnsOf_closed : joinedFacts Try.prog 5 Try.f5 Rows.fnExactTurnsOfSpec Rows.fnExactTurnsOfRow = true := by
  unfold joinedFacts
  rw [fnExactTurnsOf_j1, fnExactTurnsOf_j2, fnExactTurnsOf_j3, fnExactTurnsOf_j4]
  kernel_rfl

theorem fnExactTurnsOf_over : Rows.fnExactTurnsOfRow.holds Try.pinned (OpenSpec.ofChange Rows.fnExactTurnsOfSpec) :=
  OpenClaim.holds_of_wide 5 Try.f5 rfl rfl rfl rfl rfl rfl rfl ⟨rfl, rfl, rfl, rfl, rfl⟩ rfl rfl rfl rfl rfl (by kernel_rfl) Try.func5 fnExactTurnsOf_closed
    (of_decide_eq_true (by kernel_rfl)) (by unfold Func.isWrapper; first | (rw [if_pos (by decide +kernel)]; kernel_rfl) | (rw [if_neg (by decide +kernel)]; exact ⟨rfl, rfl⟩))
    (fun os started H enc _ => fnExactTurnsOf_lifted os started H enc)

theorem fnExactTurnsOf_holds : Rows.FnExactTurnsOfSaid := fnExactTurnsOf_over
#print axioms fnExactTurnsOf_holds
end Go.Proofs.Ytfdeccmkdhaodaa
