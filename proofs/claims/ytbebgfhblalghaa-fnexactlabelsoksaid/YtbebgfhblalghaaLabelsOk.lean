/-
  PROVED: for every list of labels LabelsOk answers as its model does, and the list that was handed in stays as it was. No condition.
-/
import Derived.Test.YtbebgfhblalghaaLblK
import Derived.Test.YtbebgfhblalghaaLblO
import Derived.Test.YtbebgfhblalghaaDLabel
namespace Go.Proofs.Ytbebgfhblalghaa
open Go.ChangeShapes Go.WideShapes Go.ChangeAt Go.RowKit Go.Joins

set_option maxHeartbeats 1000000 in
theorem lawFnExactLabelsOk_any (a : Option Addr) (c : Nat) (l : List LblD) (bs : List Nat) (w : World) (hT : LblL w a l bs) (hm : l.length ≤ maxLen) :
    Calls Try.prog 3 #[.slice a l.length c] w fun e w' => e = .returned (.bool true) ∧ Bel w w' := by
  obtain ⟨n, hn⟩ : ∃ n, l.length = n := ⟨_, rfl⟩
  rw [hn] at hm ⊢
  unfold maxLen at hm
  have Hn : Hid (l.length = n) := hn
  obtain ⟨q, Hq⟩ : ∃ q, Hid (bP (lblsP l) = q) := ⟨_, (rfl : bP (lblsP l) = _)⟩
  by_cases hf : (n : Int) ≤ 1048576
  · have hs : szR 1048576 l.length = 1048576 - n := by rw [hn]; exact szR_pos hf
    obtain ⟨r, Hr⟩ : ∃ r, Hid (szR 1048576 l.length = r) := ⟨_, (rfl : szR 1048576 l.length = _)⟩
    have hr0 : 0 ≤ r := by rw [← Hr.out, hs]; omega
    have hn' : n ≤ 1048576 := by omega
    clear hs hn hf
    go_enter Try.func3, Try.ntmps3
    go_wp2_with fail
    refine (szLabelS_any _ _ _ l bs _ _ hT Hn.out (by omega) (by omega) (by omega)).mono ?_
    rintro e w1 ⟨rfl, hb1⟩
    rw [Hr.out]
    go_wp2_with fail
    refine (toLabelS_any _ _ _ l bs _ (hT.bel lblE hb1) Hn.out hn').mono ?_
    rintro e w2 ⟨B2, d2, rfl, u2, _, hb2⟩
    have hB2 := bel_step hb1 hb2
    go_wp2_with fail
    refine (specLabelsOk_any _ _ _ l d2 _ u2 Hn.out hn' (Nat.le_refl _)).mono ?_
    rintro e w3 ⟨rfl, hb3⟩
    rw [Hq.out]
    have hB3 := bel_step hB2 hb3
    go_wp2_with fail
    refine (toLabelS_any _ _ _ l bs _ (hT.bel lblE hB3) Hn.out hn').mono ?_
    rintro e w4 ⟨B4, d4, rfl, u4, _, hb4⟩
    have hB4 := bel_step hB3 hb4
    go_wp2_with fail
    refine (labelsOk_any _ _ _ l d4 _ u4 Hn.out hn').mono ?_
    rintro e w5 ⟨rfl, hb5⟩
    rw [Hq.out]
    have hB5 := bel_step hB4 hb5
    cases q
    all_goals (
      go_wp2_with fail
      refine (toLabelS_any _ _ _ l bs _ (hT.bel lblE hB5) Hn.out hn').mono ?_
      rintro e w6 ⟨B6, d6, rfl, u6, _, hb6⟩
      have hB6 := bel_step hB5 hb6
      go_wp2_with fail
      refine (eqLabelS_same _ _ _ _ _ l d4 d6 _ (u4.bel lblE (bel_step hb5 hb6)) u6 Hn.out hn').mono ?_
      rintro e w7 ⟨rfl, hb7⟩
      go_wp2
      go_ret
      exact ⟨rfl, bel_step hB6 hb7⟩)
  · obtain ⟨r, Hr⟩ : ∃ r, Hid (szR 1048576 l.length = r) := ⟨_, (rfl : szR 1048576 l.length = _)⟩
    have hr0 : r = -1 := by rw [← Hr.out, hn]; exact szR_neg hf
    subst hr0
    clear hn hf
    go_enter Try.func3, Try.ntmps3
    go_wp2_with fail
    refine (szLabelS_any _ _ _ l bs _ _ hT Hn.out (by omega) (by omega) (by omega)).mono ?_
    rintro e w1 ⟨rfl, hb1⟩
    rw [Hr.out]
    go_wp2
    go_ret
    exact ⟨rfl, hb1⟩

theorem fnExactLabelsOk_own : ownKnob Try.prog.godebug = none := by kernel_rfl
theorem fnExactLabelsOk_laidOut : laidOutB Try.prog = true := by kernel_rfl

set_option maxRecDepth 100000 in
theorem fnExactLabelsOk_lifted (os : Os) (started : os.Started) (H : Type) (enc : TypeId × Value → H) :
    ReturnsInHanded {} Try.checked os 3 .any (Rows.fnExactLabelsOkSpec.pre6 enc Try.prog Try.f3 Rows.fnExactLabelsOkRow.domain false) (Rows.fnExactLabelsOkSpec.post enc Try.prog Try.f3 false true false false) := by
  refine returnsInHanded_of_change (C := Try.checked) fnExactLabelsOk_own started (by kernel_rfl) Try.func3
    (ChangeSpec.witness6 (enc := enc) (C := Try.checked) false ⟨#[], #[.slice none 0 0], []⟩ 8 (by kernel_rfl) (by kernel_rfl) (by kernel_rfl) (by kernel_rfl)) ?_
  intro W base args ds gs before hval0 hW hcnd _
  have hval : ∀ (j : Nat) t v, Try.f3.params[j]? = some t → args[j]? = some v → Value.okWide Try.prog W .any base t v := hval0
  have hW' := hW
  obtain ⟨p, q, hA0, hV, rfl, hfz, hnd⟩ := hW
  have hA : DataW.TrodAll enc Try.prog W 0 (fun _ => true) true Try.f3.params.toList args.toList ds p := hA0
  rw [Try.params3] at hA hval
  obtain ⟨v0, vs0, d0, ds0, p0, q0, hargs, rfl, rfl, h0, r0⟩ := trodAll_cons hA
  obtain ⟨rfl, rfl, rfl⟩ := trodAll_nil r0
  obtain rfl : args = #[v0] := by cases args; simp_all
  obtain ⟨rfl, rfl⟩ := trodVars_none hV
  have k0 := h0
  have lt0 : ∀ x ∈ p0, x.block < W.heap.size := by obtain ⟨m, hm⟩ := k0; exact DataW.trod_lt m _ _ _ hm
  obtain ⟨a0, c0, l0, bs0, rfl, ip0, im0⟩ := open_lbs (hval 0 22 v0 rfl rfl) h0
  clear hA0 hval0
  refine (lawFnExactLabelsOk_any a0 c0 l0 bs0 W ip0 im0).mono fun e W' ⟨he, bel0⟩ => ?_
  have bel := bel0.out
  subst he
  exact ⟨_, rfl, _, _, _, [], _, [], hW', trodAll_mk1 (shut_bool Try.underlying4 _), (trodAll_cons_mk (Below.trod fnExactLabelsOk_laidOut (by kernel_rfl) (of_decide_eq_true (by kernel_rfl)) k0 bel lt0) trodAll_mk0), rfl, bel.frame _, fun h => by cases h⟩

theorem fnExactLabelsOk_over : Rows.fnExactLabelsOkRow.holds Try.pinned (OpenSpec.ofChange Rows.fnExactLabelsOkSpec) :=
  OpenClaim.holds_of_wide 3 Try.f3 rfl rfl rfl rfl rfl rfl rfl ⟨rfl, rfl, rfl, rfl, rfl⟩ rfl rfl rfl rfl rfl (by kernel_rfl) Try.func3 (by kernel_rfl)
    (of_decide_eq_true (by kernel_rfl)) (by unfold Func.isWrapper; first | (rw [if_pos (by decide +kernel)]; kernel_rfl) | (rw [if_neg (by decide +kernel)]; exact ⟨rfl, rfl⟩))
    (fun os started H enc _ => fnExactLabelsOk_lifted os started H enc)

theorem fnExactLabelsOk_holds : Rows.FnExactLabelsOkSaid := fnExactLabelsOk_over
#print axioms fnExactLabelsOk_holds
end Go.Proofs.Ytbebgfhblalghaa
