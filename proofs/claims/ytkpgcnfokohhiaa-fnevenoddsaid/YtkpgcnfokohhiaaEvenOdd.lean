/-
  PROVED: for every row of bytes the law FnEvenOdd says true: a drawn point is inside of all drawn rings together just where it is inside of an odd number of them alone, on none. No condition.
-/
import Derived.Test.YtkpgcnfokohhiaaEvenOddL
import Derived.Test.YtkpgcnfokohhiaaOpenB
namespace Go.Proofs.Ytkpgcnfokohhiaa
open Go.ChangeShapes Go.WideShapes Go.ChangeAt Go.RowKit

theorem fnEvenOdd_own : ownKnob Try.prog.godebug = none := by kernel_rfl
theorem fnEvenOdd_laidOut : laidOutB Try.prog = true := by kernel_rfl

set_option maxRecDepth 100000 in
theorem fnEvenOdd_lifted (os : Os) (started : os.Started) (H : Type) (enc : TypeId × Value → H) :
    ReturnsInHanded {} Try.checked os 3 .any (Rows.fnEvenOddSpec.pre6 enc Try.prog Try.f3 Rows.fnEvenOddRow.domain false) (Rows.fnEvenOddSpec.post enc Try.prog Try.f3 false true false false) := by
  refine returnsInHanded_of_change (C := Try.checked) fnEvenOdd_own started (by kernel_rfl) Try.func3
    (ChangeSpec.witness6 (enc := enc) (C := Try.checked) false ⟨#[], #[.slice none 0 0], []⟩ 8 (by kernel_rfl) (by kernel_rfl) (by kernel_rfl) (by kernel_rfl)) ?_
  intro W base args ds gs before hval0 hW hcnd _
  have hval : ∀ (j : Nat) t v, Try.f3.params[j]? = some t → args[j]? = some v → Value.okWide Try.prog W .any base t v := hval0
  have hW' := hW
  obtain ⟨p, q, hA0, hV, rfl, hfz, hnd⟩ := hW
  have hA : DataW.TrodAll enc Try.prog W 0 (fun _ => true) true Try.f3.params.toList args.toList ds p := hA0
  rw [Try.params3] at hA hval
  obtain ⟨v0, vs0, d0, ds0, p0, q0, hargs, rfl, rfl, h0, r0⟩ := trodAll_cons hA
  obtain ⟨rfl, rfl, rfl⟩ := trodAll_nil r0
  obtain rfl : args = #[v0] := by cases args; simp_all
  obtain ⟨rfl, rfl⟩ := trodVars_none hV
  have k0 := h0
  have lt0 : ∀ x ∈ p0, x.block < W.heap.size := by obtain ⟨m, hm⟩ := k0; exact DataW.trod_lt m _ _ _ hm
  obtain ⟨a0, n0, c0, rfl, ip0, im0⟩ := open_bytes (hval 0 22 v0 rfl rfl) h0
  clear hA0 hval0
  refine (lawFnEvenOdd_any a0 n0 c0 W ip0 im0).mono fun e W' ⟨he, bel0⟩ => ?_
  have bel := bel0.out
  subst he
  exact ⟨_, rfl, _, _, _, [], _, [], hW', trodAll_mk1 (shut_bool Try.underlying4 _), (trodAll_cons_mk (Below.trod fnEvenOdd_laidOut (by kernel_rfl) (of_decide_eq_true (by kernel_rfl)) k0 bel lt0) trodAll_mk0), rfl, bel.frame _, fun h => by cases h⟩

theorem fnEvenOdd_j1 : (Rows.fnEvenOddRow.inPlace == Try.prog.inPlace 3) = true := by kernel_rfl
theorem fnEvenOdd_j2 : (Rows.fnEvenOddRow.unfollowed == Try.prog.unfollowed 3) = true := by kernel_rfl
theorem fnEvenOdd_j3 : (Rows.fnEvenOddRow.recurses == Try.prog.recurses 3) = true := by kernel_rfl
theorem fnEvenOdd_j4 : (Rows.fnEvenOddRow.named == Try.prog.varsNamed 3) = true := by kernel_rfl
theorem fnEvenOdd_closed : joinedFacts Try.prog 3 Try.f3 Rows.fnEvenOddSpec Rows.fnEvenOddRow = true := by
  unfold joinedFacts
  rw [fnEvenOdd_j1, fnEvenOdd_j2, fnEvenOdd_j3, fnEvenOdd_j4]
  kernel_rfl

theorem fnEvenOdd_over : Rows.fnEvenOddRow.holds Try.pinned (OpenSpec.ofChange Rows.fnEvenOddSpec) :=
  OpenClaim.holds_of_wide 3 Try.f3 rfl rfl rfl rfl rfl rfl rfl ⟨rfl, rfl, rfl, rfl, rfl⟩ rfl rfl rfl rfl rfl (by kernel_rfl) Try.func3 fnEvenOdd_closed
    (of_decide_eq_true (by kernel_rfl)) (by unfold Func.isWrapper; first | (rw [if_pos (by decide +kernel)]; kernel_rfl) | (rw [if_neg (by decide +kernel)]; exact ⟨rfl, rfl⟩))
    (fun os started H enc _ => fnEvenOdd_lifted os started H enc)

theorem fnEvenOdd_holds : Rows.FnEvenOddSaid := fnEvenOdd_over
#print axioms fnEvenOdd_holds
end Go.Proofs.Ytkpgcnfokohhiaa
