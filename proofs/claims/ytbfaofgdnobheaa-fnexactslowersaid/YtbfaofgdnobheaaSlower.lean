/-
  PROVED: for every graph, every list of numbers and every percent Slower answers as its model does; what was handed in stays as it was; the answer shares no memory with it nor with the answer of another call. No condition.
-/
import Derived.Test.YtbfaofgdnobheaaSlowerL
import Derived.Test.YtbfaofgdnobheaaGphO
import Derived.Test.YtbfaofgdnobheaaLblO
namespace Go.Proofs.Ytbfaofgdnobheaa
open Go.ChangeShapes Go.WideShapes Go.ChangeAt Go.RowKit

theorem fnExactSlower_own : ownKnob Try.prog.godebug = none := by kernel_rfl
theorem fnExactSlower_laidOut : laidOutB Try.prog = true := by kernel_rfl

set_option maxRecDepth 100000 in
theorem fnExactSlower_lifted (os : Os) (started : os.Started) (H : Type) (enc : TypeId × Value → H) :
    ReturnsInHanded {} Try.checked os 6 .any (Rows.fnExactSlowerSpec.pre6 enc Try.prog Try.f6 Rows.fnExactSlowerRow.domain false) (Rows.fnExactSlowerSpec.post enc Try.prog Try.f6 false true false false) := by
  refine returnsInHanded_of_change (C := Try.checked) fnExactSlower_own started (by kernel_rfl) Try.func6
    (ChangeSpec.witness6 (enc := enc) (C := Try.checked) false ⟨#[], #[.agg #[.slice none 0 0, .slice none 0 0, .slice none 0 0], .slice none 0 0, .int .i64 0], []⟩ 8 (by kernel_rfl) (by kernel_rfl) (by kernel_rfl) (by kernel_rfl)) ?_
  intro W base args ds gs before hval0 hW hcnd _
  have hval : ∀ (j : Nat) t v, Try.f6.params[j]? = some t → args[j]? = some v → Value.okWide Try.prog W .any base t v := hval0
  have hW' := hW
  obtain ⟨p, q, hA0, hV, rfl, hfz, hnd⟩ := hW
  have hA : DataW.TrodAll enc Try.prog W 0 (fun _ => true) true Try.f6.params.toList args.toList ds p := hA0
  rw [Try.params6] at hA hval
  obtain ⟨v0, vs0, d0, ds0, p0, q0, hargs, rfl, rfl, h0, r0⟩ := trodAll_cons hA
  obtain ⟨v1, vs1, d1, ds1, p1, q1, rfl, rfl, rfl, h1, r1⟩ := trodAll_cons r0
  obtain ⟨v2, vs2, d2, ds2, p2, q2, rfl, rfl, rfl, h2, r2⟩ := trodAll_cons r1
  obtain ⟨rfl, rfl, rfl⟩ := trodAll_nil r2
  obtain rfl : args = #[v0, v1, v2] := by cases args; simp_all
  obtain ⟨rfl, rfl⟩ := trodVars_none hV
  have k0 := h0
  have lt0 : ∀ x ∈ p0, x.block < W.heap.size := by obtain ⟨m, hm⟩ := k0; exact DataW.trod_lt m _ _ _ hm
  obtain ⟨g0, bs0, iv0, im0⟩ := open_graph (hval 0 32 v0 rfl rfl) h0
  have k1 := h1
  have lt1 : ∀ x ∈ p1, x.block < W.heap.size := by obtain ⟨m, hm⟩ := k1; exact DataW.trod_lt m _ _ _ hm
  obtain ⟨a1, c1, l1, bs1, rfl, ip1, im1⟩ := open_ints (hval 1 33 v1 rfl rfl) h1
  have k2 := h2
  have lt2 : ∀ x ∈ p2, x.block < W.heap.size := by obtain ⟨m, hm⟩ := k2; exact DataW.trod_lt m _ _ _ hm
  obtain ⟨x2, rfl, _, _, wx2⟩ := open_int Try.underlying2 (hval 2 2 v2 rfl rfl) h2
  clear hA0 hval0
  refine (lawFnExactSlower_any v0 g0 bs0 a1 c1 l1 bs1 x2 W iv0 im0 ip1 im1 wx2).mono fun e W' ⟨he, bel0⟩ => ?_
  have bel := bel0.out
  subst he
  exact ⟨_, rfl, _, _, _, [], _, [], hW', trodAll_mk1 (shut_bool Try.underlying4 _), (trodAll_cons_mk (Below.trod fnExactSlower_laidOut (by kernel_rfl) (of_decide_eq_true (by kernel_rfl)) k0 bel lt0) (trodAll_cons_mk (Below.trod fnExactSlower_laidOut (by kernel_rfl) (of_decide_eq_true (by kernel_rfl)) k1 bel lt1) (trodAll_cons_mk (Below.trod fnExactSlower_laidOut (by kernel_rfl) (of_decide_eq_true (by kernel_rfl)) k2 bel lt2) trodAll_mk0))), rfl, bel.frame _, fun h => by cases h⟩

theorem fnExactSlower_j1 : (Rows.fnExactSlowerRow.inPlace == Try.prog.inPlace 6) = true := by kernel_rfl
theorem fnExactSlower_j2 : (Rows.fnExactSlowerRow.unfollowed == Try.prog.unfollowed 6) = true := by kernel_rfl
theorem fnExactSlower_j3 : (Rows.fnExactSlowerRow.recurses == Try.prog.recurses 6) = true := by kernel_rfl
theorem fnExactSlower_j4 : (Rows.fnExactSlowerRow.named == Try.prog.varsNamed 6) = true := by kernel_rfl
theorem fnExactSlower_closed : joinedFacts Try.prog 6 Try.f6 Rows.fnExactSlowerSpec Rows.fnExactSlowerRow = true := by
  unfold joinedFacts
  rw [fnExactSlower_j1, fnExactSlower_j2, fnExactSlower_j3, fnExactSlower_j4]
  kernel_rfl

theorem fnExactSlower_over : Rows.fnExactSlowerRow.holds Try.pinned (OpenSpec.ofChange Rows.fnExactSlowerSpec) :=
  OpenClaim.holds_of_wide 6 Try.f6 rfl rfl rfl rfl rfl rfl rfl ⟨rfl, rfl, rfl, rfl, rfl⟩ rfl rfl rfl rfl rfl (by kernel_rfl) Try.func6 fnExactSlower_closed
    (of_decide_eq_true (by kernel_rfl)) (by unfold Func.isWrapper; first | (rw [if_pos (by decide +kernel)]; kernel_rfl) | (rw [if_neg (by decide +kernel)]; exact ⟨rfl, rfl⟩))
    (fun os started H enc _ => fnExactSlower_lifted os started H enc)

theorem fnExactSlower_holds : Rows.FnExactSlowerSaid := fnExactSlower_over
#print axioms fnExactSlower_holds
end Go.Proofs.Ytbfaofgdnobheaa
