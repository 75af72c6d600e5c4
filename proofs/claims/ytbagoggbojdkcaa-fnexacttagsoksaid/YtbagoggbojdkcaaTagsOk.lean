/-
  PROVED: for every list of tags TagsOk answers as its model does, and the list that was handed in stays as it was. No condition.
-/
import Derived.Test.YtbagoggbojdkcaaTagS
import Derived.Test.YtbagoggbojdkcaaDTag
import Derived.Test.YtbagoggbojdkcaaOpenD
namespace Go.Proofs.Ytbagoggbojdkcaa
open Go.ChangeShapes Go.WideShapes Go.ChangeAt Go.RowKit

theorem len_tagsSz (l : List TagD) : l.length ≤ tagsSz l := by unfold tagsSz; omega

set_option maxHeartbeats 1000000 in
theorem lawFnExactTagsOk_any (a : Option Addr) (c : Nat) (l : List TagD) (bs : List Nat) (w : World) (hT : Tags w a l bs) (hm : l.length ≤ maxLen) :
    Calls Try.prog 3 #[.slice a l.length c] w fun e w' => e = .returned (.bool true) ∧ Bel w w' := by
  obtain ⟨n, hn⟩ : ∃ n, l.length = n := ⟨_, rfl⟩
  rw [hn] at hm ⊢
  unfold maxLen at hm
  have Hn : Hid (l.length = n) := hn
  have hsz := len_tagsSz l
  rw [hn] at hsz
  by_cases hf : ((tagsSz l : Nat) : Int) ≤ 1048576
  · have hs : szR 1048576 (tagsSz l) = 1048576 - tagsSz l := szR_pos hf
    obtain ⟨r, Hr⟩ : ∃ r, Hid (szR 1048576 (tagsSz l) = r) := ⟨_, (rfl : szR 1048576 (tagsSz l) = _)⟩
    have hr0 : 0 ≤ r := by rw [← Hr.out, hs]; omega
    have hn' : n ≤ 1048576 := by omega
    clear hs hn hf hsz
    go_enter Try.func3, Try.ntmps3
    go_wp2_with fail
    refine (szTagS_any _ _ _ l bs _ _ hT Hn.out (by omega) (by omega) (by omega)).mono ?_
    rintro e w1 ⟨rfl, hb1⟩
    rw [Hr.out]
    go_wp2_with fail
    refine (toTagS_any _ _ _ l bs _ (hT.bel2 hb1) Hn.out hn').mono ?_
    rintro e w2 ⟨B2, d2, rfl, u2, _, hb2⟩
    have hB2 := bel_step hb1 hb2
    go_wp2_with fail
    refine (specTagsOk_any _ _ _ l d2 _ u2 Hn.out hn').mono ?_
    rintro e w3 ⟨rfl, hb3⟩
    have hB3 := bel_step hB2 hb3
    go_wp2_with fail
    refine (toTagS_any _ _ _ l bs _ (hT.bel2 hB3) Hn.out hn').mono ?_
    rintro e w4 ⟨B4, d4, rfl, u4, _, hb4⟩
    have hB4 := bel_step hB3 hb4
    go_wp2_with fail
    refine (tagsOk_any _ _ _ l d4 _ u4 Hn.out hn').mono ?_
    rintro e w5 ⟨rfl, hb5⟩
    have hB5 := bel_step hB4 hb5
    go_wp2_with fail
    refine (toTagS_any _ _ _ l bs _ (hT.bel2 hB5) Hn.out hn').mono ?_
    rintro e w6 ⟨B6, d6, rfl, u6, _, hb6⟩
    have hB6 := bel_step hB5 hb6
    go_wp2_with fail
    refine (eqTagS_same _ _ _ _ _ l d4 d6 _ (u4.bel2 (bel_step hb5 hb6)) u6 Hn.out hn').mono ?_
    rintro e w7 ⟨rfl, hb7⟩
    go_wp2
    go_ret
    exact ⟨rfl, bel_step hB6 hb7⟩
  · obtain ⟨r, Hr⟩ : ∃ r, Hid (szR 1048576 (tagsSz l) = r) := ⟨_, (rfl : szR 1048576 (tagsSz l) = _)⟩
    have hr0 : r = -1 := by rw [← Hr.out]; exact szR_neg hf
    subst hr0
    clear hn hf hsz
    go_enter Try.func3, Try.ntmps3
    go_wp2_with fail
    refine (szTagS_any _ _ _ l bs _ _ hT Hn.out (by omega) (by omega) (by omega)).mono ?_
    rintro e w1 ⟨rfl, hb1⟩
    rw [Hr.out]
    go_wp2
    go_ret
    exact ⟨rfl, hb1⟩

theorem fnExactTagsOk_own : ownKnob Try.prog.godebug = none := by kernel_rfl
theorem fnExactTagsOk_laidOut : laidOutB Try.prog = true := by kernel_rfl

set_option maxRecDepth 100000 in
theorem fnExactTagsOk_lifted (os : Os) (started : os.Started) (H : Type) (enc : TypeId × Value → H) :
    ReturnsInHanded {} Try.checked os 3 .any (Rows.fnExactTagsOkSpec.pre6 enc Try.prog Try.f3 Rows.fnExactTagsOkRow.domain false) (Rows.fnExactTagsOkSpec.post enc Try.prog Try.f3 false true false false) := by
  refine returnsInHanded_of_change (C := Try.checked) fnExactTagsOk_own started (by kernel_rfl) Try.func3
    (ChangeSpec.witness6 (enc := enc) (C := Try.checked) false ⟨#[], #[.slice none 0 0], []⟩ 8 (by kernel_rfl) (by kernel_rfl) (by kernel_rfl) (by kernel_rfl)) ?_
  intro W base args ds gs before hval0 hW hcnd _
  have hval : ∀ (j : Nat) t v, Try.f3.params[j]? = some t → args[j]? = some v → Value.okWide Try.prog W .any base t v := hval0
  have hW' := hW
  obtain ⟨p, q, hA0, hV, rfl, hfz, hnd⟩ := hW
  have hA : DataW.TrodAll enc Try.prog W 0 (fun _ => true) true Try.f3.params.toList args.toList ds p := hA0
  rw [Try.params3] at hA hval
  obtain ⟨v0, vs0, d0, ds0, p0, q0, hargs, rfl, rfl, h0, r0⟩ := trodAll_cons hA
  obtain ⟨rfl, rfl, rfl⟩ := trodAll_nil r0
  obtain rfl : args = #[v0] := by cases args; simp_all
  obtain ⟨rfl, rfl⟩ := trodVars_none hV
  have k0 := h0
  have lt0 : ∀ x ∈ p0, x.block < W.heap.size := by obtain ⟨m, hm⟩ := k0; exact DataW.trod_lt m _ _ _ hm
  obtain ⟨a0, c0, l0, bs0, rfl, ip0, im0⟩ := open_tags (hval 0 22 v0 rfl rfl) h0
  clear hA0 hval0
  refine (lawFnExactTagsOk_any a0 c0 l0 bs0 W ip0 im0).mono fun e W' ⟨he, bel0⟩ => ?_
  have bel := bel0.out
  subst he
  exact ⟨_, rfl, _, _, _, [], _, [], hW', trodAll_mk1 (shut_bool Try.underlying4 _), (trodAll_cons_mk (Below.trod fnExactTagsOk_laidOut (by kernel_rfl) (of_decide_eq_true (by kernel_rfl)) k0 bel lt0) trodAll_mk0), rfl, bel.frame _, fun h => by cases h⟩

theorem fnExactTagsOk_over : Rows.fnExactTagsOkRow.holds Try.pinned (OpenSpec.ofChange Rows.fnExactTagsOkSpec) :=
  OpenClaim.holds_of_wide 3 Try.f3 rfl rfl rfl rfl rfl rfl rfl ⟨rfl, rfl, rfl, rfl, rfl⟩ rfl rfl rfl rfl rfl (by kernel_rfl) Try.func3 (by kernel_rfl)
    (of_decide_eq_true (by kernel_rfl)) (by unfold Func.isWrapper; first | (rw [if_pos (by decide +kernel)]; kernel_rfl) | (rw [if_neg (by decide +kernel)]; exact ⟨rfl, rfl⟩))
    (fun os started H enc _ => fnExactTagsOk_lifted os started H enc)

theorem fnExactTagsOk_holds : Rows.FnExactTagsOkSaid := fnExactTagsOk_over
#print axioms fnExactTagsOk_holds
end Go.Proofs.Ytbagoggbojdkcaa
