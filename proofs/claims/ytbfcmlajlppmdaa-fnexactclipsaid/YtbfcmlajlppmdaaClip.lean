/-
  PROVED: for every row and every box Clip answers as its model does; the row that was handed in stays as it was; the answer shares no memory with it nor with the answer of another call. No condition.
-/
import Derived.Test.YtbfcmlajlppmdaaClipL
namespace Go.Proofs.Ytbfcmlajlppmdaa
open Go.ChangeShapes Go.WideShapes Go.ChangeAt Go.RowKit Go.Joins

theorem fnExactClip_own : ownKnob Try.prog.godebug = none := by kernel_rfl
theorem fnExactClip_laidOut : laidOutB Try.prog = true := by kernel_rfl

set_option maxRecDepth 100000 in
theorem fnExactClip_lifted (os : Os) (started : os.Started) (H : Type) (enc : TypeId × Value → H) :
  ReturnsInHanded {} Try.checked os 3 .any (Rows.fnExactClipSpec.pre6 enc Try.prog Try.f3 Rows.fnExactClipRow.domain false) (Rows.fnExactClipSpec.post enc Try.prog Try.f3 false true false false) := by
 refine returnsInHanded_of_change (C := Try.checked) fnExactClip_own started (by kernel_rfl) Try.func3
  (ChangeSpec.witness6 (enc := enc) (C := Try.checked) false ⟨#[], #[.slice none 0 0, .agg #[.int .i64 0, .int .i64 0, .int .i64 0, .int .i64 0]], []⟩ 8 (by kernel_rfl) (by kernel_rfl) (by kernel_rfl) (by kernel_rfl)) ?_
 intro W base args ds gs before hval0 hW hcnd _
 have hval : ∀ (j : Nat) t v, Try.f3.params[j]? = some t → args[j]? = some v → Value.okWide Try.prog W .any base t v := hval0
 have hW' := hW
 obtain ⟨p, q, hA0, hV, rfl, hfz, hnd⟩ := hW
 have hA : DataW.TrodAll enc Try.prog W 0 (fun _ => true) true Try.f3.params.toList args.toList ds p := hA0
 rw [Try.params3] at hA hval
 obtain ⟨v0, vs0, d0, ds0, p0, q0, hargs, rfl, rfl, h0, r0⟩ := trodAll_cons hA
 obtain ⟨v1, vs1, d1, ds1, p1, q1, rfl, rfl, rfl, h1, r1⟩ := trodAll_cons r0
 obtain ⟨rfl, rfl, rfl⟩ := trodAll_nil r1
 obtain rfl : args = #[v0, v1] := by cases args; simp_all
 obtain ⟨rfl, rfl⟩ := trodVars_none hV
 have k0 := h0
 have lt0 : ∀ x ∈ p0, x.block < W.heap.size := by obtain ⟨m, hm⟩ := k0; exact DataW.trod_lt m _ _ _ hm
 obtain ⟨a0, c0, l0, bs0, rfl, ip0, im0⟩ := open_ptl (hval 0 22 v0 rfl rfl) h0
 have k1 := h1
 have lt1 : ∀ x ∈ p1, x.block < W.heap.size := by obtain ⟨m, hm⟩ := k1; exact DataW.trod_lt m _ _ _ hm
 obtain ⟨q1, rfl, hq1⟩ := open_box6 (hval 1 26 v1 rfl rfl) h1
 clear hA0 hval0
 refine (lawFnExactClip_any a0 c0 l0 bs0 q1 hq1 W ip0 im0).mono fun e W' ⟨he, bel0⟩ => ?_
 have bel := bel0.out
 subst he
 exact ⟨_, rfl, _, _, _, [], _, [], hW', trodAll_mk1 (shut_bool Try.underlying4 _), (trodAll_cons_mk (Below.trod fnExactClip_laidOut (by kernel_rfl) (of_decide_eq_true (by kernel_rfl)) k0 bel lt0) (trodAll_cons_mk (Below.trod fnExactClip_laidOut (by kernel_rfl) (of_decide_eq_true (by kernel_rfl)) k1 bel lt1) trodAll_mk0)), rfl, bel.frame _, fun h => by cases h⟩

theorem fnExactClip_j1 : (Rows.fnExactClipRow.inPlace == Try.prog.inPlace 3) = true := by kernel_rfl
theorem fnExactClip_j2 : (Rows.fnExactClipRow.unfollowed == Try.prog.unfollowed 3) = true := by kernel_rfl
theorem fnExactClip_j3 : (Rows.fnExactClipRow.recurses == Try.prog.recurses 3) = true := by kernel_rfl
theorem fnExactClip_j4 : (Rows.fnExactClipRow.named == Try.prog.varsNamed 3) = true := by kernel_rfl
theorem fnExactClip_closed : joinedFacts Try.prog 3 Try.f3 Rows.fnExactClipSpec Rows.fnExactClipRow = true := by
 unfold joinedFacts
 rw [fnExactClip_j1, fnExactClip_j2, fnExactClip_j3, fnExactClip_j4]
 kernel_rfl

theorem fnExactClip_over : Rows.fnExactClipRow.holds Try.pinned (OpenSpec.ofChange Rows.fnExactClipSpec) :=
 OpenClaim.holds_of_wide 3 Try.f3 rfl rfl rfl rfl rfl rfl rfl ⟨rfl, rfl, rfl, rfl, rfl⟩ rfl rfl rfl rfl rfl (by kernel_rfl) Try.func3 fnExactClip_closed
  (of_decide_eq_true (by kernel_rfl)) (by unfold Func.isWrapper; first | (rw [if_pos (by decide +kernel)]; kernel_rfl) | (rw [if_neg (by decide +kernel)]; exact ⟨rfl, rfl⟩))
  (fun os started H enc _ => fnExactClip_lifted os started H enc)

theorem fnExactClip_holds : Rows.FnExactClipSaid := fnExactClip_over
#print axioms fnExactClip_holds
end Go.Proofs.Ytbfcmlajlppmdaa
