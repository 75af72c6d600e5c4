/-
  PROVED: for every row Bounds answers as its model does, field by field, and the row that was handed in stays as it was. No condition.
-/
import Derived.Test.YtoeaplcijdlhnaaBoundsD
import Derived.Test.YtoeaplcijdlhnaaOpenS
namespace Go.Proofs.Ytoeaplcijdlhnaa
open Go.ChangeShapes Go.WideShapes Go.ChangeAt Go.RowKit

set_option maxHeartbeats 1000000 in
theorem lawFnExactBounds_any (a : Option Addr) (n c : Nat) (X Y : Nat → Int) (w : World) (hP : Pts w a n X Y) (hm : n ≤ 9223372036854775807) :
    Calls Try.prog 11 #[.slice a n c] w fun e w' => e = .returned (.bool true) ∧ Bel w w' := by
  by_cases hn : n ≤ 1048576
  · go_enter Try.func11, Try.ntmps11
    go_wp2_with fail
    refine (sz_fits _ _ _ _ hn).mono ?_
    rintro e w1 ⟨rfl, rfl⟩
    go_wp2_with fail
    refine (toPointS_any _ _ _ _ _ _ hP hn).mono ?_
    rintro e w2 ⟨rfl, r2, hb2⟩
    go_wp2_with fail
    refine (specBounds_any _ _ _ _ _ _ r2.pts hn).mono ?_
    rintro e w3 ⟨rfl, hb3⟩
    have hB3 : Bel _ (w3.alloc (.cells #[.int .i64 (bq n X Y 0), .int .i64 (bq n X Y 1), .int .i64 (bq n X Y 2), .int .i64 (bq n X Y 3)] 52)) := bel_alloc (bel_step hb2 hb3) _
    have F3 := Four.new w3 (bq n X Y 0) (bq n X Y 1) (bq n X Y 2) (bq n X Y 3) 52
    go_wp2_with fail
    refine (toPointS_any _ _ _ X Y _ (hP.bel hB3) hn).mono ?_
    rintro e w4 ⟨rfl, r4, hb4⟩
    have r4 : Row w4 (w3.heap.size + 1) n n X Y := by simpa using r4
    have hB4 := bel_step hB3 hb4
    go_wp2_with fail
    refine (bounds_any _ _ _ X Y _ r4.pts hn).mono ?_
    rintro e w5 ⟨rfl, hb5⟩
    have F5 := F3.bel (bel_step hb4 hb5)
    obtain ⟨fl, f0, f1, f2, f3, _⟩ := F5
    have hB5 := bel_alloc (bel_step hB4 hb5) (.cells #[.int .i64 (bq n X Y 0), .int .i64 (bq n X Y 1), .int .i64 (bq n X Y 2), .int .i64 (bq n X Y 3)] 52)
    clear F3
    go_wp2_with fail
    refine (eqBox_same _ _ _ _ _).mono ?_
    rintro e w6 ⟨rfl, hb6⟩
    have hB6 := bel_step hB5 hb6
    go_wp2_with fail
    refine (toPointS_any _ _ _ X Y _ (hP.bel hB6) hn).mono ?_
    rintro e w7 ⟨rfl, r7, hb7⟩
    go_wp2_with fail
    refine (eqPointS_same _ _ _ _ _ X Y _ (r4.bel (bel_step (bel_step (bel_alloc hb5 _) hb6) hb7)).pts r7.pts hn).mono ?_
    rintro e w8 ⟨rfl, hb8⟩
    go_wp2
    go_ret
    exact ⟨rfl, bel_step (bel_step hB6 hb7) hb8⟩
  · go_enter Try.func11, Try.ntmps11
    go_wp2_with fail
    refine (sz_not _ _ _ _ (by omega) hm).mono ?_
    rintro e w1 ⟨rfl, rfl⟩
    go_wp2
    go_ret
    exact ⟨rfl, Bel.refl _⟩

theorem fnExactBounds_own : ownKnob Try.prog.godebug = none := by kernel_rfl
theorem fnExactBounds_laidOut : laidOutB Try.prog = true := by kernel_rfl

set_option maxRecDepth 100000 in
theorem fnExactBounds_lifted (os : Os) (started : os.Started) (H : Type) (enc : TypeId × Value → H) :
    ReturnsInHanded {} Try.checked os 11 .any (Rows.fnExactBoundsSpec.pre6 enc Try.prog Try.f11 Rows.fnExactBoundsRow.domain false) (Rows.fnExactBoundsSpec.post enc Try.prog Try.f11 false true false false) := by
  refine returnsInHanded_of_change (C := Try.checked) fnExactBounds_own started (by kernel_rfl) Try.func11
    (ChangeSpec.witness6 (enc := enc) (C := Try.checked) false ⟨#[], #[.slice none 0 0], []⟩ 8 (by kernel_rfl) (by kernel_rfl) (by kernel_rfl) (by kernel_rfl)) ?_
  intro W base args ds gs before hval0 hW hcnd _
  have hval : ∀ (j : Nat) t v, Try.f11.params[j]? = some t → args[j]? = some v → Value.okWide Try.prog W .any base t v := hval0
  have hW' := hW
  obtain ⟨p, q, hA0, hV, rfl, hfz, hnd⟩ := hW
  have hA : DataW.TrodAll enc Try.prog W 0 (fun _ => true) true Try.f11.params.toList args.toList ds p := hA0
  rw [Try.params11] at hA hval
  obtain ⟨v0, vs0, d0, ds0, p0, q0, hargs, rfl, rfl, h0, r0⟩ := trodAll_cons hA
  obtain ⟨rfl, rfl, rfl⟩ := trodAll_nil r0
  obtain rfl : args = #[v0] := by cases args; simp_all
  obtain ⟨rfl, rfl⟩ := trodVars_none hV
  have k0 := h0
  have lt0 : ∀ x ∈ p0, x.block < W.heap.size := by obtain ⟨m, hm⟩ := k0; exact DataW.trod_lt m _ _ _ hm
  obtain ⟨a0, n0, c0, X0, Y0, rfl, ip0, im0⟩ := open_pts (hval 0 32 v0 rfl rfl) h0
  clear hA0 hval0
  refine (lawFnExactBounds_any a0 n0 c0 X0 Y0 W ip0 im0).mono fun e W' ⟨he, bel0⟩ => ?_
  have bel := bel0.out
  subst he
  exact ⟨_, rfl, _, _, _, [], _, [], hW', trodAll_mk1 (shut_bool Try.underlying4 _), (trodAll_cons_mk (Below.trod fnExactBounds_laidOut (by kernel_rfl) (of_decide_eq_true (by kernel_rfl)) k0 bel lt0) trodAll_mk0), rfl, bel.frame _, fun h => by cases h⟩

theorem fnExactBounds_over : Rows.fnExactBoundsRow.holds Try.pinned (OpenSpec.ofChange Rows.fnExactBoundsSpec) :=
  OpenClaim.holds_of_wide 11 Try.f11 rfl rfl rfl rfl rfl rfl rfl ⟨rfl, rfl, rfl, rfl, rfl⟩ rfl rfl rfl rfl rfl (by kernel_rfl) Try.func11 (by kernel_rfl)
    (of_decide_eq_true (by kernel_rfl)) (by unfold Func.isWrapper; first | (rw [if_pos (by decide +kernel)]; kernel_rfl) | (rw [if_neg (by decide +kernel)]; exact ⟨rfl, rfl⟩))
    (fun os started H enc _ => fnExactBounds_lifted os started H enc)

theorem fnExactBounds_holds : Rows.FnExactBoundsSaid := fnExactBounds_over
#print axioms fnExactBounds_holds
end Go.Proofs.Ytoeaplcijdlhnaa
