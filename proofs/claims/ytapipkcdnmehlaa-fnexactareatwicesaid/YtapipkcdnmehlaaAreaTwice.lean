/-
  PROVED: for every row AreaTwice answers as its model does, and the row that was handed in stays as it was. No condition.
-/
import Derived.Test.YtapipkcdnmehlaaTwoC
import Derived.Test.YtapipkcdnmehlaaOpenS
namespace Go.Proofs.Ytapipkcdnmehlaa
open Go.ChangeShapes Go.WideShapes Go.ChangeAt Go.RowKit

set_option maxHeartbeats 1000000 in
theorem lawFnExactAreaTwice_any (a : Option Addr) (n c : Nat) (X Y : Nat → Int) (w : World) (hP : Pts w a n X Y) (hm : n ≤ 9223372036854775807) :
    Calls Try.prog 3 #[.slice a n c] w fun e w' => e = .returned (.bool true) ∧ Bel w w' := by
  by_cases hn : n ≤ 1048576
  · go_enter Try.func3, Try.ntmps3
    go_wp2_with fail
    refine (sz_fits _ _ _ _ hn).mono ?_
    rintro e w1 ⟨rfl, rfl⟩
    go_wp2_with fail
    refine (toPointS_any _ _ _ _ _ _ hP hn).mono ?_
    rintro e w2 ⟨rfl, r2, hb2⟩
    go_wp2_with fail
    refine (specTwice_any _ _ _ _ _ _ r2.pts hn).mono ?_
    rintro e w3 ⟨rfl, hb3⟩
    have hB3 := bel_step hb2 hb3
    go_wp2_with fail
    refine (toPointS_any _ _ _ _ _ _ (hP.bel hB3) hn).mono ?_
    rintro e w4 ⟨rfl, r4, hb4⟩
    have hB4 := bel_step hB3 hb4
    go_wp2_with fail
    refine (twice_any _ _ _ _ _ _ r4.pts hn).mono ?_
    rintro e w5 ⟨rfl, hb5⟩
    have hB5 := bel_step hB4 hb5
    go_wp2_with fail
    refine (toPointS_any _ _ _ _ _ _ (hP.bel hB5) hn).mono ?_
    rintro e w6 ⟨rfl, r6, hb6⟩
    go_wp2_with fail
    refine (eqPointS_same _ _ _ _ _ _ _ _ (r4.bel (bel_step hb5 hb6)).pts r6.pts hn).mono ?_
    rintro e w7 ⟨rfl, hb7⟩
    go_wp2
    go_ret
    exact ⟨rfl, bel_step (bel_step hB5 hb6) hb7⟩
  · go_enter Try.func3, Try.ntmps3
    go_wp2_with fail
    refine (sz_not _ _ _ _ (by omega) hm).mono ?_
    rintro e w1 ⟨rfl, rfl⟩
    go_wp2
    go_ret
    exact ⟨rfl, Bel.refl _⟩

theorem fnExactAreaTwice_own : ownKnob Try.prog.godebug = none := by kernel_rfl
theorem fnExactAreaTwice_laidOut : laidOutB Try.prog = true := by kernel_rfl

set_option maxRecDepth 100000 in
theorem fnExactAreaTwice_lifted (os : Os) (started : os.Started) (H : Type) (enc : TypeId × Value → H) :
    ReturnsInHanded {} Try.checked os 3 .any (Rows.fnExactAreaTwiceSpec.pre6 enc Try.prog Try.f3 Rows.fnExactAreaTwiceRow.domain false) (Rows.fnExactAreaTwiceSpec.post enc Try.prog Try.f3 false true false false) := by
  refine returnsInHanded_of_change (C := Try.checked) fnExactAreaTwice_own started (by kernel_rfl) Try.func3
    (ChangeSpec.witness6 (enc := enc) (C := Try.checked) false ⟨#[], #[.slice none 0 0], []⟩ 8 (by kernel_rfl) (by kernel_rfl) (by kernel_rfl) (by kernel_rfl)) ?_
  intro W base args ds gs before hval0 hW hcnd _
  have hval : ∀ (j : Nat) t v, Try.f3.params[j]? = some t → args[j]? = some v → Value.okWide Try.prog W .any base t v := hval0
  have hW' := hW
  obtain ⟨p, q, hA0, hV, rfl, hfz, hnd⟩ := hW
  have hA : DataW.TrodAll enc Try.prog W 0 (fun _ => true) true Try.f3.params.toList args.toList ds p := hA0
  rw [Try.params3] at hA hval
  obtain ⟨v0, vs0, d0, ds0, p0, q0, hargs, rfl, rfl, h0, r0⟩ := trodAll_cons hA
  obtain ⟨rfl, rfl, rfl⟩ := trodAll_nil r0
  obtain rfl : args = #[v0] := by cases args; simp_all
  obtain ⟨rfl, rfl⟩ := trodVars_none hV
  have k0 := h0
  have lt0 : ∀ x ∈ p0, x.block < W.heap.size := by obtain ⟨m, hm⟩ := k0; exact DataW.trod_lt m _ _ _ hm
  obtain ⟨a0, n0, c0, X0, Y0, rfl, ip0, im0⟩ := open_pts (hval 0 22 v0 rfl rfl) h0
  clear hA0 hval0
  refine (lawFnExactAreaTwice_any a0 n0 c0 X0 Y0 W ip0 im0).mono fun e W' ⟨he, bel0⟩ => ?_
  have bel := bel0.out
  subst he
  exact ⟨_, rfl, _, _, _, [], _, [], hW', trodAll_mk1 (shut_bool Try.underlying4 _), (trodAll_cons_mk (Below.trod fnExactAreaTwice_laidOut (by kernel_rfl) (of_decide_eq_true (by kernel_rfl)) k0 bel lt0) trodAll_mk0), rfl, bel.frame _, fun h => by cases h⟩

theorem fnExactAreaTwice_over : Rows.fnExactAreaTwiceRow.holds Try.pinned (OpenSpec.ofChange Rows.fnExactAreaTwiceSpec) :=
  OpenClaim.holds_of_wide 3 Try.f3 rfl rfl rfl rfl rfl rfl rfl ⟨rfl, rfl, rfl, rfl, rfl⟩ rfl rfl rfl rfl rfl (by kernel_rfl) Try.func3 (by kernel_rfl)
    (of_decide_eq_true (by kernel_rfl)) (by unfold Func.isWrapper; first | (rw [if_pos (by decide +kernel)]; kernel_rfl) | (rw [if_neg (by decide +kernel)]; exact ⟨rfl, rfl⟩))
    (fun os started H enc _ => fnExactAreaTwice_lifted os started H enc)

theorem fnExactAreaTwice_holds : Rows.FnExactAreaTwiceSaid := fnExactAreaTwice_over
#print axioms fnExactAreaTwice_holds
end Go.Proofs.Ytapipkcdnmehlaa
