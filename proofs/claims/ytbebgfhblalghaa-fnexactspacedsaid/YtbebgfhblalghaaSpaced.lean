/-
  PROVED: for every list of labels and every list of Ids Spaced answers as its model does, and the lists that were handed in stay as they were. No condition.
-/
import Derived.Test.YtbebgfhblalghaaSpcJ
import Derived.Test.YtbebgfhblalghaaLblO
import Derived.Test.YtbebgfhblalghaaDLabel
import Derived.Test.YtbebgfhblalghaaDInt64
namespace Go.Proofs.Ytbebgfhblalghaa
open Go.ChangeShapes Go.WideShapes Go.ChangeAt Go.RowKit Go.Joins

set_option maxHeartbeats 2000000 in
theorem lawFnExactSpaced_any (a : Option Addr) (c : Nat) (l : List LblD) (bs : List Nat) (ai : Option Addr) (ci : Nat) (ids : List Int) (bi : List Nat) (w : World) (hT : LblL w a l bs) (hm : l.length ≤ maxLen) (hI : Ints w ai ids bi) (hmi : ids.length ≤ maxLen) :
    Calls Try.prog 6 #[.slice a l.length c, .slice ai ids.length ci] w fun e w' => e = .returned (.bool true) ∧ Bel w w' := by
  obtain ⟨n, hn⟩ : ∃ n, l.length = n := ⟨_, rfl⟩
  obtain ⟨ni, hni⟩ : ∃ n, ids.length = n := ⟨_, rfl⟩
  rw [hn] at hm ⊢
  rw [hni] at hmi ⊢
  unfold maxLen at hm hmi
  have Hn : Hid (l.length = n) := hn
  have Hi : Hid (ids.length = ni) := hni
  obtain ⟨q, Hq⟩ : ∃ q, Hid (spQ l ids = q) := ⟨_, (rfl : spQ l ids = _)⟩
  by_cases hg : ni ≤ 1048576
  · have hi' := hg
    have hgi : (ni : Int) ≤ 1048576 := by omega
    by_cases hf : (n : Int) ≤ 1048576
    · have hs : szR 1048576 l.length = 1048576 - n := by rw [hn]; exact szR_pos hf
      obtain ⟨r, Hr⟩ : ∃ r, Hid (szR 1048576 l.length = r) := ⟨_, (rfl : szR 1048576 l.length = _)⟩
      have hr0 : 0 ≤ r := by rw [← Hr.out, hs]; omega
      have hn' : n ≤ 1048576 := by omega
      clear hs hn hf hni
      go_enter Try.func6, Try.ntmps6
      go_wp2_with fail
      refine (szLabelS_any _ _ _ l bs _ _ hT Hn.out (by omega) (by omega) (by omega)).mono ?_
      rintro e w1 ⟨rfl, hb1⟩
      rw [Hr.out]
      go_wp2_with fail
      refine (toLabelS_any _ _ _ l bs _ (hT.bel lblE hb1) Hn.out hn').mono ?_
      rintro e w2a ⟨B2, d2, rfl, u2a, _, hb2a⟩
      have hB2a := bel_step hb1 hb2a
      go_wp2_with fail
      refine (toInt64S_any _ _ _ ids bi _ (hI.bel intE hB2a) Hi.out hi').mono ?_
      rintro e w2 ⟨B2i, d2i, rfl, u2i, _, hb2⟩
      have hB2 := bel_step hB2a hb2
      have u2 := u2a.bel lblE hb2
      clear u2a
      go_wp2_with fail
      refine (specSpaced_any _ _ _ l d2 _ _ _ ids d2i _ u2 Hn.out hn' (Nat.le_refl _) u2i Hi.out hi').mono ?_
      rintro e w3 ⟨rfl, hb3⟩
      rw [Hq.out]
      have hB3 := bel_step hB2 hb3
      clear u2 u2i
      go_wp2_with fail
      refine (toLabelS_any _ _ _ l bs _ (hT.bel lblE hB3) Hn.out hn').mono ?_
      rintro e w4a ⟨B4, d4, rfl, u4a, _, hb4a⟩
      have hB4a := bel_step hB3 hb4a
      go_wp2_with fail
      refine (toInt64S_any _ _ _ ids bi _ (hI.bel intE hB4a) Hi.out hi').mono ?_
      rintro e w4 ⟨B4i, d4i, rfl, u4i, _, hb4⟩
      have hB4 := bel_step hB4a hb4
      have u4 := u4a.bel lblE hb4
      clear u4a
      go_wp2_with fail
      refine (spaced_any _ _ _ l d4 _ _ _ ids d4i _ u4 Hn.out hn' u4i Hi.out hi').mono ?_
      rintro e w5 ⟨rfl, hb5⟩
      rw [Hq.out]
      have hB5 := bel_step hB4 hb5
      cases q
      all_goals (
      
      go_wp2_with fail
      refine (toLabelS_any _ _ _ l bs _ (hT.bel lblE hB5) Hn.out hn').mono ?_
      rintro e w6 ⟨B6, d6, rfl, u6, _, hb6⟩
      have hB6 := bel_step hB5 hb6
      go_wp2_with fail
      refine (eqLabelS_same _ _ _ _ _ l d4 d6 _ (u4.bel lblE (bel_step hb5 hb6)) u6 Hn.out hn').mono ?_
      rintro e w7 ⟨rfl, hb7⟩
      have hB7 := bel_step hB6 hb7
      clear u6
      go_wp2_with fail
      refine (toInt64S_any _ _ _ ids bi _ (hI.bel intE hB7) Hi.out hi').mono ?_
      rintro e w8 ⟨B8, d8, rfl, u8, _, hb8⟩
      have hB8 := bel_step hB7 hb8
      go_wp2_with fail
      refine (eqInt64S_same _ _ _ _ _ ids d4i d8 _ (u4i.bel intE (bel_step (bel_step (bel_step hb5 hb6) hb7) hb8)) u8 Hi.out hi').mono ?_
      rintro e w9 ⟨rfl, hb9⟩
      go_wp2
      go_ret
      exact ⟨rfl, bel_step hB8 hb9⟩)
    · obtain ⟨r, Hr⟩ : ∃ r, Hid (szR 1048576 l.length = r) := ⟨_, (rfl : szR 1048576 l.length = _)⟩
      have hr0 : r = -1 := by rw [← Hr.out, hn]; exact szR_neg hf
      subst hr0
      clear hn hf hni
      go_enter Try.func6, Try.ntmps6
      go_wp2_with fail
      refine (szLabelS_any _ _ _ l bs _ _ hT Hn.out (by omega) (by omega) (by omega)).mono ?_
      rintro e w1 ⟨rfl, hb1⟩
      rw [Hr.out]
      go_wp2
      go_ret
      exact ⟨rfl, hb1⟩
  · have hgi : ¬ (ni : Int) ≤ 1048576 := by omega
    clear hn hni
    go_enter Try.func6, Try.ntmps6
    go_wp2
    go_ret
    exact ⟨rfl, Bel.refl _⟩

theorem fnExactSpaced_own : ownKnob Try.prog.godebug = none := by kernel_rfl
theorem fnExactSpaced_laidOut : laidOutB Try.prog = true := by kernel_rfl

set_option maxRecDepth 100000 in
theorem fnExactSpaced_lifted (os : Os) (started : os.Started) (H : Type) (enc : TypeId × Value → H) :
    ReturnsInHanded {} Try.checked os 6 .any (Rows.fnExactSpacedSpec.pre6 enc Try.prog Try.f6 Rows.fnExactSpacedRow.domain false) (Rows.fnExactSpacedSpec.post enc Try.prog Try.f6 false true false false) := by
  refine returnsInHanded_of_change (C := Try.checked) fnExactSpaced_own started (by kernel_rfl) Try.func6
    (ChangeSpec.witness6 (enc := enc) (C := Try.checked) false ⟨#[], #[.slice none 0 0, .slice none 0 0], []⟩ 8 (by kernel_rfl) (by kernel_rfl) (by kernel_rfl) (by kernel_rfl)) ?_
  intro W base args ds gs before hval0 hW hcnd _
  have hval : ∀ (j : Nat) t v, Try.f6.params[j]? = some t → args[j]? = some v → Value.okWide Try.prog W .any base t v := hval0
  have hW' := hW
  obtain ⟨p, q, hA0, hV, rfl, hfz, hnd⟩ := hW
  have hA : DataW.TrodAll enc Try.prog W 0 (fun _ => true) true Try.f6.params.toList args.toList ds p := hA0
  rw [Try.params6] at hA hval
  obtain ⟨v0, vs0, d0, ds0, p0, q0, hargs, rfl, rfl, h0, r0⟩ := trodAll_cons hA
  obtain ⟨v1, vs1, d1, ds1, p1, q1, rfl, rfl, rfl, h1, r1⟩ := trodAll_cons r0
  obtain ⟨rfl, rfl, rfl⟩ := trodAll_nil r1
  obtain rfl : args = #[v0, v1] := by cases args; simp_all
  obtain ⟨rfl, rfl⟩ := trodVars_none hV
  have k0 := h0
  have lt0 : ∀ x ∈ p0, x.block < W.heap.size := by obtain ⟨m, hm⟩ := k0; exact DataW.trod_lt m _ _ _ hm
  obtain ⟨a0, c0, l0, bs0, rfl, ip0, im0⟩ := open_lbs (hval 0 22 v0 rfl rfl) h0
  have k1 := h1
  have lt1 : ∀ x ∈ p1, x.block < W.heap.size := by obtain ⟨m, hm⟩ := k1; exact DataW.trod_lt m _ _ _ hm
  obtain ⟨a1, c1, l1, bs1, rfl, ip1, im1⟩ := open_ints (hval 1 39 v1 rfl rfl) h1
  clear hA0 hval0
  refine (lawFnExactSpaced_any a0 c0 l0 bs0 a1 c1 l1 bs1 W ip0 im0 ip1 im1).mono fun e W' ⟨he, bel0⟩ => ?_
  have bel := bel0.out
  subst he
  exact ⟨_, rfl, _, _, _, [], _, [], hW', trodAll_mk1 (shut_bool Try.underlying4 _), (trodAll_cons_mk (Below.trod fnExactSpaced_laidOut (by kernel_rfl) (of_decide_eq_true (by kernel_rfl)) k0 bel lt0) (trodAll_cons_mk (Below.trod fnExactSpaced_laidOut (by kernel_rfl) (of_decide_eq_true (by kernel_rfl)) k1 bel lt1) trodAll_mk0)), rfl, bel.frame _, fun h => by cases h⟩

theorem fnExactSpaced_over : Rows.fnExactSpacedRow.holds Try.pinned (OpenSpec.ofChange Rows.fnExactSpacedSpec) :=
  OpenClaim.holds_of_wide 6 Try.f6 rfl rfl rfl rfl rfl rfl rfl ⟨rfl, rfl, rfl, rfl, rfl⟩ rfl rfl rfl rfl rfl (by kernel_rfl) Try.func6 (by kernel_rfl)
    (of_decide_eq_true (by kernel_rfl)) (by unfold Func.isWrapper; first | (rw [if_pos (by decide +kernel)]; kernel_rfl) | (rw [if_neg (by decide +kernel)]; exact ⟨rfl, rfl⟩))
    (fun os started H enc _ => fnExactSpaced_lifted os started H enc)

theorem fnExactSpaced_holds : Rows.FnExactSpacedSaid := fnExactSpaced_over
#print axioms fnExactSpaced_holds
end Go.Proofs.Ytbebgfhblalghaa
