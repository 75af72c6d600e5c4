/-
  PROVED: for every graph NoBack answers as its model does; what was handed in stays as it was; the answer shares no memory with it nor with the answer of another call. No condition.
-/
import Derived.Test.YtiagdabikbjbiaaNobL
import Derived.Test.YtiagdabikbjbiaaXC
import Derived.Test.YtiagdabikbjbiaaXF
namespace Go.Proofs.Ytiagdabikbjbiaa
open Go.ChangeShapes Go.WideShapes Go.ChangeAt Go.RowKit

theorem fnExactNoBack_own : ownKnob Try.prog.godebug = none := by kernel_rfl
theorem fnExactNoBack_laidOut : laidOutB Try.prog = true := by kernel_rfl

set_option maxRecDepth 100000 in
theorem fnExactNoBack_lifted (os : Os) (started : os.Started) (H : Type) (enc : TypeId × Value → H) :
    ReturnsInHanded {} Try.checked os 4 .any (Rows.fnExactNoBackSpec.pre6 enc Try.prog Try.f4 Rows.fnExactNoBackRow.domain false) (Rows.fnExactNoBackSpec.post enc Try.prog Try.f4 false true false false) := by
  refine returnsInHanded_of_change (C := Try.checked) fnExactNoBack_own started (by kernel_rfl) Try.func4
    (ChangeSpec.witness6 (enc := enc) (C := Try.checked) false ⟨#[], #[.agg #[.slice none 0 0, .slice none 0 0, .slice none 0 0]], []⟩ 8 (by kernel_rfl) (by kernel_rfl) (by kernel_rfl) (by kernel_rfl)) ?_
  intro W base args ds gs before hval0 hW hcnd _
  have hval : ∀ (j : Nat) t v, Try.f4.params[j]? = some t → args[j]? = some v → Value.okWide Try.prog W .any base t v := hval0
  have hW' := hW
  obtain ⟨p, q, hA0, hV, rfl, hfz, hnd⟩ := hW
  have hA : DataW.TrodAll enc Try.prog W 0 (fun _ => true) true Try.f4.params.toList args.toList ds p := hA0
  rw [Try.params4] at hA hval
  obtain ⟨v0, vs0, d0, ds0, p0, q0, hargs, rfl, rfl, h0, r0⟩ := trodAll_cons hA
  obtain ⟨rfl, rfl, rfl⟩ := trodAll_nil r0
  obtain rfl : args = #[v0] := by cases args; simp_all
  obtain ⟨rfl, rfl⟩ := trodVars_none hV
  have k0 := h0
  have lt0 : ∀ x ∈ p0, x.block < W.heap.size := by obtain ⟨m, hm⟩ := k0; exact DataW.trod_lt m _ _ _ hm
  obtain ⟨g0, bs0, iv0, im0⟩ := open_graph (hval 0 26 v0 rfl rfl) h0
  clear hA0 hval0
  refine (lawFnExactNoBack_any v0 g0 bs0 W iv0 im0).mono fun e W' ⟨he, bel0⟩ => ?_
  have bel := bel0.out
  subst he
  exact ⟨_, rfl, _, _, _, [], _, [], hW', trodAll_mk1 (shut_bool Try.underlying4 _), (trodAll_cons_mk (Below.trod fnExactNoBack_laidOut (by kernel_rfl) (of_decide_eq_true (by kernel_rfl)) k0 bel lt0) trodAll_mk0), rfl, bel.frame _, fun h => by cases h⟩

theorem fnExactNoBack_j1 : (Rows.fnExactNoBackRow.inPlace == Try.prog.inPlace 4) = true := by kernel_rfl
theorem fnExactNoBack_j2 : (Rows.fnExactNoBackRow.unfollowed == Try.prog.unfollowed 4) = true := by kernel_rfl
theorem fnExactNoBack_j3 : (Rows.fnExactNoBackRow.recurses == Try.prog.recurses 4) = true := by kernel_rfl
theorem fnExactNoBack_j4 : (Rows.fnExactNoBackRow.named == Try.prog.varsNamed 4) = true := by kernel_rfl
theorem fnExactNoBack_closed : joinedFacts Try.prog 4 Try.f4 Rows.fnExactNoBackSpec Rows.fnExactNoBackRow = true := by
  unfold joinedFacts
  rw [fnExactNoBack_j1, fnExactNoBack_j2, fnExactNoBack_j3, fnExactNoBack_j4]
  kernel_rfl

theorem fnExactNoBack_over : Rows.fnExactNoBackRow.holds Try.pinned (OpenSpec.ofChange Rows.fnExactNoBackSpec) :=
  OpenClaim.holds_of_wide 4 Try.f4 rfl rfl rfl rfl rfl rfl rfl ⟨rfl, rfl, rfl, rfl, rfl⟩ rfl rfl rfl rfl rfl (by kernel_rfl) Try.func4 fnExactNoBack_closed
    (of_decide_eq_true (by kernel_rfl)) (by unfold Func.isWrapper; first | (rw [if_pos (by decide +kernel)]; kernel_rfl) | (rw [if_neg (by decide +kernel)]; exact ⟨rfl, rfl⟩))
    (fun os started H enc _ => fnExactNoBack_lifted os started H enc)

theorem fnExactNoBack_holds : Rows.FnExactNoBackSaid := fnExactNoBack_over
#print axioms fnExactNoBack_holds
end Go.Proofs.Ytiagdabikbjbiaa
