/-
  PROVED: for every two texts Edits answers as its model does. No condition.
-/
import Derived.Test.YtonedkibbdbgjaaEdtS
import Derived.Test.YtonedkibbdbgjaaOpenD
namespace Go.Proofs.Ytonedkibbdbgjaa
open Go.ChangeShapes Go.WideShapes Go.ChangeAt Go.RowKit

set_option maxHeartbeats 1000000 in
theorem lawFnExactEdits_any (A B : ByteArray) (w : World) (hA : A.size ≤ maxLen) (hB : B.size ≤ maxLen) :
    Calls Try.prog 3 #[.string A, .string B] w fun e w' => e = .returned (.bool true) ∧ Bel w w' := by
  by_cases h1 : A.size ≤ 1048576
  · by_cases h2 : B.size ≤ 1048576
    · have h1' : (A.size : Int) ≤ 1048576 := by omega
      have h2' : (B.size : Int) ≤ 1048576 := by omega
      have HA : Hid (A.size ≤ maxLen) := hA
      have HB : Hid (B.size ≤ maxLen) := hB
      clear hA hB
      go_enter Try.func3, Try.ntmps3
      go_wp2_with fail
      refine (specEdits_any A B _ HA.out HB.out).mono ?_
      rintro e w1 ⟨rfl, hb1⟩
      obtain ⟨q, hq⟩ : ∃ q, edQ A B = q := ⟨_, rfl⟩
      rw [hq]
      go_wp2_with fail
      refine (edits_any A B _ HA.out HB.out).mono ?_
      rintro e w2 ⟨rfl, n, rfl⟩
      rw [hq]
      go_wp2_with fail
      go_ret
      exact ⟨rfl, bel_drewN hb1 n⟩
    · have h1' : (A.size : Int) ≤ 1048576 := by omega
      have h2' : ¬ (B.size : Int) ≤ 1048576 := by omega
      go_enter Try.func3, Try.ntmps3
      go_wp2
      go_ret
      exact ⟨rfl, Bel.refl _⟩
  · have h1' : ¬ (A.size : Int) ≤ 1048576 := by omega
    go_enter Try.func3, Try.ntmps3
    go_wp2
    go_ret
    exact ⟨rfl, Bel.refl _⟩

theorem fnExactEdits_own : ownKnob Try.prog.godebug = none := by kernel_rfl
theorem fnExactEdits_laidOut : laidOutB Try.prog = true := by kernel_rfl

set_option maxRecDepth 100000 in
theorem fnExactEdits_lifted (os : Os) (started : os.Started) (H : Type) (enc : TypeId × Value → H) :
    ReturnsInHanded {} Try.checked os 3 .any (Rows.fnExactEditsSpec.pre6 enc Try.prog Try.f3 Rows.fnExactEditsRow.domain false) (Rows.fnExactEditsSpec.post enc Try.prog Try.f3 false true false false) := by
  refine returnsInHanded_of_change (C := Try.checked) fnExactEdits_own started (by kernel_rfl) Try.func3
    (ChangeSpec.witness6 (enc := enc) (C := Try.checked) false ⟨#[], #[.string ⟨#[]⟩, .string ⟨#[]⟩], []⟩ 8 (by kernel_rfl) (by kernel_rfl) (by kernel_rfl) (by kernel_rfl)) ?_
  intro W base args ds gs before hval0 hW hcnd _
  have hval : ∀ (j : Nat) t v, Try.f3.params[j]? = some t → args[j]? = some v → Value.okWide Try.prog W .any base t v := hval0
  have hW' := hW
  obtain ⟨p, q, hA0, hV, rfl, hfz, hnd⟩ := hW
  have hA : DataW.TrodAll enc Try.prog W 0 (fun _ => true) true Try.f3.params.toList args.toList ds p := hA0
  rw [Try.params3] at hA hval
  obtain ⟨v0, vs0, d0, ds0, p0, q0, hargs, rfl, rfl, h0, r0⟩ := trodAll_cons hA
  obtain ⟨v1, vs1, d1, ds1, p1, q1, rfl, rfl, rfl, h1, r1⟩ := trodAll_cons r0
  obtain ⟨rfl, rfl, rfl⟩ := trodAll_nil r1
  obtain rfl : args = #[v0, v1] := by cases args; simp_all
  obtain ⟨rfl, rfl⟩ := trodVars_none hV
  have k0 := h0
  have lt0 : ∀ x ∈ p0, x.block < W.heap.size := by obtain ⟨m, hm⟩ := k0; exact DataW.trod_lt m _ _ _ hm
  obtain ⟨s0, rfl, is0⟩ := open_str (hval 0 9 v0 rfl rfl) h0
  have k1 := h1
  have lt1 : ∀ x ∈ p1, x.block < W.heap.size := by obtain ⟨m, hm⟩ := k1; exact DataW.trod_lt m _ _ _ hm
  obtain ⟨s1, rfl, is1⟩ := open_str (hval 1 9 v1 rfl rfl) h1
  clear hA0 hval0
  refine (lawFnExactEdits_any s0 s1 W is0 is1).mono fun e W' ⟨he, bel0⟩ => ?_
  have bel := bel0.out
  subst he
  exact ⟨_, rfl, _, _, _, [], _, [], hW', trodAll_mk1 (shut_bool Try.underlying4 _), (trodAll_cons_mk (Below.trod fnExactEdits_laidOut (by kernel_rfl) (of_decide_eq_true (by kernel_rfl)) k0 bel lt0) (trodAll_cons_mk (Below.trod fnExactEdits_laidOut (by kernel_rfl) (of_decide_eq_true (by kernel_rfl)) k1 bel lt1) trodAll_mk0)), rfl, bel.frame _, fun h => by cases h⟩

theorem fnExactEdits_j1 : (Rows.fnExactEditsRow.inPlace == Try.prog.inPlace 3) = true := by kernel_rfl
theorem fnExactEdits_j2 : (Rows.fnExactEditsRow.unfollowed == Try.prog.unfollowed 3) = true := by kernel_rfl
theorem fnExactEdits_j3 : (Rows.fnExactEditsRow.recurses == Try.prog.recurses 3) = true := by kernel_rfl
theorem fnExactEdits_j4 : (Rows.fnExactEditsRow.named == Try.prog.varsNamed 3) = true := by kernel_rfl
theorem fnExactEdits_closed : joinedFacts Try.prog 3 Try.f3 Rows.fnExactEditsSpec Rows.fnExactEditsRow = true := by
  unfold joinedFacts
  rw [fnExactEdits_j1, fnExactEdits_j2, fnExactEdits_j3, fnExactEdits_j4]
  kernel_rfl

theorem fnExactEdits_over : Rows.fnExactEditsRow.holds Try.pinned (OpenSpec.ofChange Rows.fnExactEditsSpec) :=
  OpenClaim.holds_of_wide 3 Try.f3 rfl rfl rfl rfl rfl rfl rfl ⟨rfl, rfl, rfl, rfl, rfl⟩ rfl rfl rfl rfl rfl (by kernel_rfl) Try.func3 fnExactEdits_closed
    (of_decide_eq_true (by kernel_rfl)) (by unfold Func.isWrapper; first | (rw [if_pos (by decide +kernel)]; kernel_rfl) | (rw [if_neg (by decide +kernel)]; exact ⟨rfl, rfl⟩))
    (fun os started H enc _ => fnExactEdits_lifted os started H enc)

theorem fnExactEdits_holds : Rows.FnExactEditsSaid := fnExactEdits_over
#print axioms fnExactEdits_holds
end Go.Proofs.Ytonedkibbdbgjaa
