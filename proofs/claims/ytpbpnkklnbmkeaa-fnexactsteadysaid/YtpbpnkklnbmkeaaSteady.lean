/-
  PROVED: for every list of days the law FnExactSteady says true. No condition.
-/
import Derived.Test.YtpbpnkklnbmkeaaXE
import Derived.Test.YtpbpnkklnbmkeaaXF
import Derived.Test.YtpbpnkklnbmkeaaOpen
namespace Go.Proofs.Ytpbpnkklnbmkeaa
open Go.ChangeShapes Go.WideShapes Go.ChangeAt Go.RowKit

theorem fnExactSteady_own : ownKnob Try.prog.godebug = none := by kernel_rfl
theorem fnExactSteady_laidOut : laidOutB Try.prog = true := by kernel_rfl

set_option maxRecDepth 100000 in
theorem fnExactSteady_lifted (os : Os) (started : os.Started) (H : Type) (enc : TypeId × Value → H) :
    ReturnsInHanded {} Try.checked os 5 .any (Rows.fnExactSteadySpec.pre6 enc Try.prog Try.f5 Rows.fnExactSteadyRow.domain false) (Rows.fnExactSteadySpec.post enc Try.prog Try.f5 false true false false) := by
  refine returnsInHanded_of_change (C := Try.checked) fnExactSteady_own started (by kernel_rfl) Try.func5
    (ChangeSpec.witness6 (enc := enc) (C := Try.checked) false ⟨#[], #[.slice none 0 0], []⟩ 8 (by kernel_rfl) (by kernel_rfl) (by kernel_rfl) (by kernel_rfl)) ?_
  intro W base args ds gs before hval0 hW hcnd _
  have hval : ∀ (j : Nat) t v, Try.f5.params[j]? = some t → args[j]? = some v → Value.okWide Try.prog W .any base t v := hval0
  have hW' := hW
  obtain ⟨p, q, hA0, hV, rfl, hfz, hnd⟩ := hW
  have hA : DataW.TrodAll enc Try.prog W 0 (fun _ => true) true Try.f5.params.toList args.toList ds p := hA0
  rw [Try.params5] at hA hval
  obtain ⟨v0, vs0, d0, ds0, p0, q0, hargs, rfl, rfl, h0, r0⟩ := trodAll_cons hA
  obtain ⟨rfl, rfl, rfl⟩ := trodAll_nil r0
  obtain rfl : args = #[v0] := by cases args; simp_all
  obtain ⟨rfl, rfl⟩ := trodVars_none hV
  have k0 := h0
  have lt0 : ∀ x ∈ p0, x.block < W.heap.size := by obtain ⟨m, hm⟩ := k0; exact DataW.trod_lt m _ _ _ hm
  obtain ⟨a0, c0, l0, bs0, rfl, ip0, im0⟩ := open_lbss (hval 0 43 v0 rfl rfl) h0
  clear hA0 hval0
  refine (lawFnExactSteady_any a0 c0 l0 bs0 W ip0 im0).mono fun e W' ⟨he, bel0⟩ => ?_
  have bel := bel0.out
  subst he
  exact ⟨_, rfl, _, _, _, [], _, [], hW', trodAll_mk1 (shut_bool Try.underlying4 _), (trodAll_cons_mk (Below.trod fnExactSteady_laidOut (by kernel_rfl) (of_decide_eq_true (by kernel_rfl)) k0 bel lt0) trodAll_mk0), rfl, bel.frame _, fun h => by cases h⟩

theorem fnExactSteady_j1 : (Rows.fnExactSteadyRow.inPlace == Try.prog.inPlace 5) = true := by kernel_rfl
theorem fnExactSteady_j2 : (Rows.fnExactSteadyRow.unfollowed == Try.prog.unfollowed 5) = true := by kernel_rfl
theorem fnExactSteady_j3 : (Rows.fnExactSteadyRow.recurses == Try.prog.recurses 5) = true := by kernel_rfl
theorem fnExactSteady_j4 : (Rows.fnExactSteadyRow.named == Try.prog.varsNamed 5) = true := by kernel_rfl
theorem fnExactSteady_closed : joinedFacts Try.prog 5 Try.f5 Rows.fnExactSteadySpec Rows.fnExactSteadyRow = true := by
  unfold joinedFacts
  rw [fnExactSteady_j1, fnExactSteady_j2, fnExactSteady_j3, fnExactSteady_j4]
  kernel_rfl

theorem fnExactSteady_over : Rows.fnExactSteadyRow.holds Try.pinned (OpenSpec.ofChange Rows.fnExactSteadySpec) :=
  OpenClaim.holds_of_wide 5 Try.f5 rfl rfl rfl rfl rfl rfl rfl ⟨rfl, rfl, rfl, rfl, rfl⟩ rfl rfl rfl rfl rfl (by kernel_rfl) Try.func5 fnExactSteady_closed
    (of_decide_eq_true (by kernel_rfl)) (by unfold Func.isWrapper; first | (rw [if_pos (by decide +kernel)]; kernel_rfl) | (rw [if_neg (by decide +kernel)]; exact ⟨rfl, rfl⟩))
    (fun os started H enc _ => fnExactSteady_lifted os started H enc)

theorem fnExactSteady_holds : Rows.FnExactSteadySaid := fnExactSteady_over
#print axioms fnExactSteady_holds
end Go.Proofs.Ytpbpnkklnbmkeaa
