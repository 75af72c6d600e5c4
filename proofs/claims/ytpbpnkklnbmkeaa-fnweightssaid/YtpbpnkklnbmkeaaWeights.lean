/-
  PROVED: for every row of bytes the law FnWeights says true. No condition.
-/
import Derived.Test.YtpbpnkklnbmkeaaXD
import Derived.Test.YtpbpnkklnbmkeaaOpenB
namespace Go.Proofs.Ytpbpnkklnbmkeaa
open Go.ChangeShapes Go.WideShapes Go.ChangeAt Go.RowKit

theorem fnWeights_own : ownKnob Try.prog.godebug = none := by kernel_rfl
theorem fnWeights_laidOut : laidOutB Try.prog = true := by kernel_rfl

set_option maxRecDepth 100000 in
theorem fnWeights_lifted (os : Os) (started : os.Started) (H : Type) (enc : TypeId × Value → H) :
    ReturnsInHanded {} Try.checked os 3 .any (Rows.fnWeightsSpec.pre6 enc Try.prog Try.f3 Rows.fnWeightsRow.domain false) (Rows.fnWeightsSpec.post enc Try.prog Try.f3 false true false false) := by
  refine returnsInHanded_of_change (C := Try.checked) fnWeights_own started (by kernel_rfl) Try.func3
    (ChangeSpec.witness6 (enc := enc) (C := Try.checked) false ⟨#[], #[.slice none 0 0], []⟩ 8 (by kernel_rfl) (by kernel_rfl) (by kernel_rfl) (by kernel_rfl)) ?_
  intro W base args ds gs before hval0 hW hcnd _
  have hval : ∀ (j : Nat) t v, Try.f3.params[j]? = some t → args[j]? = some v → Value.okWide Try.prog W .any base t v := hval0
  have hW' := hW
  obtain ⟨p, q, hA0, hV, rfl, hfz, hnd⟩ := hW
  have hA : DataW.TrodAll enc Try.prog W 0 (fun _ => true) true Try.f3.params.toList args.toList ds p := hA0
  rw [Try.params3] at hA hval
  obtain ⟨v0, vs0, d0, ds0, p0, q0, hargs, rfl, rfl, h0, r0⟩ := trodAll_cons hA
  obtain ⟨rfl, rfl, rfl⟩ := trodAll_nil r0
  obtain rfl : args = #[v0] := by cases args; simp_all
  obtain ⟨rfl, rfl⟩ := trodVars_none hV
  have k0 := h0
  have lt0 : ∀ x ∈ p0, x.block < W.heap.size := by obtain ⟨m, hm⟩ := k0; exact DataW.trod_lt m _ _ _ hm
  obtain ⟨a0, n0, c0, rfl, ip0, im0⟩ := open_bytes (hval 0 22 v0 rfl rfl) h0
  clear hA0 hval0
  refine (lawFnWeights_any a0 n0 c0 W ip0 im0).mono fun e W' ⟨he, bel0⟩ => ?_
  have bel := bel0.out
  subst he
  exact ⟨_, rfl, _, _, _, [], _, [], hW', trodAll_mk1 (shut_bool Try.underlying4 _), (trodAll_cons_mk (Below.trod fnWeights_laidOut (by kernel_rfl) (of_decide_eq_true (by kernel_rfl)) k0 bel lt0) trodAll_mk0), rfl, bel.frame _, fun h => by cases h⟩

theorem fnWeights_j1 : (Rows.fnWeightsRow.inPlace == Try.prog.inPlace 3) = true := by kernel_rfl
theorem fnWeights_j2 : (Rows.fnWeightsRow.unfollowed == Try.prog.unfollowed 3) = true := by kernel_rfl
theorem fnWeights_j3 : (Rows.fnWeightsRow.recurses == Try.prog.recurses 3) = true := by kernel_rfl
theorem fnWeights_j4 : (Rows.fnWeightsRow.named == Try.prog.varsNamed 3) = true := by kernel_rfl
theorem fnWeights_closed : joinedFacts Try.prog 3 Try.f3 Rows.fnWeightsSpec Rows.fnWeightsRow = true := by
  unfold joinedFacts
  rw [fnWeights_j1, fnWeights_j2, fnWeights_j3, fnWeights_j4]
  kernel_rfl

theorem fnWeights_over : Rows.fnWeightsRow.holds Try.pinned (OpenSpec.ofChange Rows.fnWeightsSpec) :=
  OpenClaim.holds_of_wide 3 Try.f3 rfl rfl rfl rfl rfl rfl rfl ⟨rfl, rfl, rfl, rfl, rfl⟩ rfl rfl rfl rfl rfl (by kernel_rfl) Try.func3 fnWeights_closed
    (of_decide_eq_true (by kernel_rfl)) (by unfold Func.isWrapper; first | (rw [if_pos (by decide +kernel)]; kernel_rfl) | (rw [if_neg (by decide +kernel)]; exact ⟨rfl, rfl⟩))
    (fun os started H enc _ => fnWeights_lifted os started H enc)

theorem fnWeights_holds : Rows.FnWeightsSaid := fnWeights_over
#print axioms fnWeights_holds
end Go.Proofs.Ytpbpnkklnbmkeaa
