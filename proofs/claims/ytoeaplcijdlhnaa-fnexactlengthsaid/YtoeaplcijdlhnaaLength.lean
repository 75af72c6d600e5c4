/-
  PROVED: for every row Length answers as its model does, and the row that was handed in stays as it was. No condition.
-/
import Derived.Test.YtoeaplcijdlhnaaLengthC
import Derived.Test.YtoeaplcijdlhnaaOpenS
namespace Go.Proofs.Ytoeaplcijdlhnaa
open Go.ChangeShapes Go.WideShapes Go.ChangeAt Go.RowKit

set_option maxHeartbeats 1000000 in
theorem lawFnExactLength_any (a : Option Addr) (n c : Nat) (X Y : Nat → Int) (w : World) (hP : Pts w a n X Y) (hm : n ≤ 9223372036854775807) :
    Calls Try.prog 6 #[.slice a n c] w fun e w' => e = .returned (.bool true) ∧ Bel w w' := by
  by_cases hn : n ≤ 1048576
  · go_enter Try.func6, Try.ntmps6
    go_wp2_with fail
    refine (sz_fits _ _ _ _ hn).mono ?_
    rintro e w1 ⟨rfl, rfl⟩
    go_wp2_with fail
    refine (toPointS_any _ _ _ _ _ _ hP hn).mono ?_
    rintro e w2 ⟨rfl, r2, hb2⟩
    go_wp2_with fail
    refine (specLength_any _ _ _ _ _ _ r2.pts hn).mono ?_
    rintro e w3 ⟨rfl, hb3⟩
    have hB3 := bel_step hb2 hb3
    go_wp2_with fail
    refine (toPointS_any _ _ _ _ _ _ (hP.bel hB3) hn).mono ?_
    rintro e w4 ⟨rfl, r4, hb4⟩
    have hB4 := bel_step hB3 hb4
    go_wp2_with fail
    refine (length_any _ _ _ _ _ _ r4.pts hn).mono ?_
    rintro e w5 ⟨rfl, hb5⟩
    have hB5 := bel_step hB4 hb5
    go_wp2_with fail
    refine (toPointS_any _ _ _ _ _ _ (hP.bel hB5) hn).mono ?_
    rintro e w6 ⟨rfl, r6, hb6⟩
    go_wp2_with fail
    refine (eqPointS_same _ _ _ _ _ _ _ _ (r4.bel (bel_step hb5 hb6)).pts r6.pts hn).mono ?_
    rintro e w7 ⟨rfl, hb7⟩
    go_wp2
    go_ret
    exact ⟨rfl, bel_step (bel_step hB5 hb6) hb7⟩
  · go_enter Try.func6, Try.ntmps6
    go_wp2_with fail
    refine (sz_not _ _ _ _ (by omega) hm).mono ?_
    rintro e w1 ⟨rfl, rfl⟩
    go_wp2
    go_ret
    exact ⟨rfl, Bel.refl _⟩

theorem fnExactLength_own : ownKnob Try.prog.godebug = none := by kernel_rfl
theorem fnExactLength_laidOut : laidOutB Try.prog = true := by kernel_rfl

set_option maxRecDepth 100000 in
theorem fnExactLength_lifted (os : Os) (started : os.Started) (H : Type) (enc : TypeId × Value → H) :
    ReturnsInHanded {} Try.checked os 6 .any (Rows.fnExactLengthSpec.pre6 enc Try.prog Try.f6 Rows.fnExactLengthRow.domain false) (Rows.fnExactLengthSpec.post enc Try.prog Try.f6 false true false false) := by
  refine returnsInHanded_of_change (C := Try.checked) fnExactLength_own started (by kernel_rfl) Try.func6
    (ChangeSpec.witness6 (enc := enc) (C := Try.checked) false ⟨#[], #[.slice none 0 0], []⟩ 8 (by kernel_rfl) (by kernel_rfl) (by kernel_rfl) (by kernel_rfl)) ?_
  intro W base args ds gs before hval0 hW hcnd _
  have hval : ∀ (j : Nat) t v, Try.f6.params[j]? = some t → args[j]? = some v → Value.okWide Try.prog W .any base t v := hval0
  have hW' := hW
  obtain ⟨p, q, hA0, hV, rfl, hfz, hnd⟩ := hW
  have hA : DataW.TrodAll enc Try.prog W 0 (fun _ => true) true Try.f6.params.toList args.toList ds p := hA0
  rw [Try.params6] at hA hval
  obtain ⟨v0, vs0, d0, ds0, p0, q0, hargs, rfl, rfl, h0, r0⟩ := trodAll_cons hA
  obtain ⟨rfl, rfl, rfl⟩ := trodAll_nil r0
  obtain rfl : args = #[v0] := by cases args; simp_all
  obtain ⟨rfl, rfl⟩ := trodVars_none hV
  have k0 := h0
  have lt0 : ∀ x ∈ p0, x.block < W.heap.size := by obtain ⟨m, hm⟩ := k0; exact DataW.trod_lt m _ _ _ hm
  obtain ⟨a0, n0, c0, X0, Y0, rfl, ip0, im0⟩ := open_pts (hval 0 32 v0 rfl rfl) h0
  clear hA0 hval0
  refine (lawFnExactLength_any a0 n0 c0 X0 Y0 W ip0 im0).mono fun e W' ⟨he, bel0⟩ => ?_
  have bel := bel0.out
  subst he
  exact ⟨_, rfl, _, _, _, [], _, [], hW', trodAll_mk1 (shut_bool Try.underlying4 _), (trodAll_cons_mk (Below.trod fnExactLength_laidOut (by kernel_rfl) (of_decide_eq_true (by kernel_rfl)) k0 bel lt0) trodAll_mk0), rfl, bel.frame _, fun h => by cases h⟩

theorem fnExactLength_over : Rows.fnExactLengthRow.holds Try.pinned (OpenSpec.ofChange Rows.fnExactLengthSpec) :=
  OpenClaim.holds_of_wide 6 Try.f6 rfl rfl rfl rfl rfl rfl rfl ⟨rfl, rfl, rfl, rfl, rfl⟩ rfl rfl rfl rfl rfl (by kernel_rfl) Try.func6 (by kernel_rfl)
    (of_decide_eq_true (by kernel_rfl)) (by unfold Func.isWrapper; first | (rw [if_pos (by decide +kernel)]; kernel_rfl) | (rw [if_neg (by decide +kernel)]; exact ⟨rfl, rfl⟩))
    (fun os started H enc _ => fnExactLength_lifted os started H enc)

theorem fnExactLength_holds : Rows.FnExactLengthSaid := fnExactLength_over
#print axioms fnExactLength_holds
end Go.Proofs.Ytoeaplcijdlhnaa
