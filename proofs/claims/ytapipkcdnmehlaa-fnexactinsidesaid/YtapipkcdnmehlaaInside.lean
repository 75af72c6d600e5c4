/-
  PROVED: for all rings and every point Inside answers as its model does, and the rings that were handed in stay as they were. No condition.
-/
import Derived.Test.YtapipkcdnmehlaaInsS
import Derived.Test.YtapipkcdnmehlaaInsI
import Derived.Test.YtapipkcdnmehlaaDRing
import Derived.Test.YtapipkcdnmehlaaOpenR
import Derived.Test.YtapipkcdnmehlaaOpen
namespace Go.Proofs.Ytapipkcdnmehlaa
open Go.ChangeShapes Go.WideShapes Go.ChangeAt Go.RowKit

set_option maxRecDepth 100000 in
set_option maxHeartbeats 4000000 in
theorem lawFnExactInside_any (a : Option Addr) (c : Nat) (l : List RingD) (bs : List Nat) (x y : Int) (w : World) (hT : RingL w a l bs) (hM : l.length ≤ maxLen) (_wx : (Lit.int .i64 x).wf = true) (_wy : (Lit.int .i64 y).wf = true) :
    Calls Try.prog 4 #[.slice a l.length c, pt x y] w fun e w' => e = .returned (.bool true) ∧ Bel w w' := by
  obtain ⟨n, hn⟩ : ∃ n, l.length = n := ⟨_, rfl⟩
  rw [hn] at hM ⊢
  have Hn : Hid (l.length = n) := hn
  clear hn
  obtain ⟨W, HW⟩ : ∃ W, Hid (W = w.alloc (.cells #[.int .i64 x, .int .i64 y] 31)) := ⟨_, (rfl : w.alloc (.cells #[.int .i64 x, .int .i64 y] 31) = _)⟩
  have hBW : Bel w W := by rw [HW.out]; exact bel_alloc (Bel.refl _) _
  have XP : Blk W w.heap.size [.int .i64 x, .int .i64 y] := by rw [HW.out]; exact Blk.new w [.int .i64 x, .int .i64 y] _
  have hR : ∀ w', Bel W w' → w'.cell? ⟨w.heap.size, 0, none⟩ = some (.int .i64 x) ∧ w'.cell? ⟨w.heap.size, 1, none⟩ = some (.int .i64 y) := fun w' h => ⟨(XP.bel h).cell 0 (by simp), (XP.bel h).cell 1 (by simp)⟩
  have hTW := hT.bel ringE hBW
  obtain ⟨r, Hr⟩ : ∃ r, Hid (szR 1048576 (ringsSz l) = r) := ⟨_, (rfl : szR 1048576 (ringsSz l) = _)⟩
  obtain ⟨z, Hz⟩ : ∃ z, Hid (insOf l x y = z) := ⟨_, (rfl : insOf l x y = _)⟩
  by_cases hr : 0 ≤ r
  · have hfit := rings_fit (l := l) (by rw [Hr.out]; exact hr)
    have hm : n ≤ 1048576 := by rw [← Hn.out]; exact hfit.1
    have HS : Hid (∀ i (h : i < l.length), l[i].row.length ≤ 1048576) := hfit.2
    have hT6 : ∀ w', Bel W w' → RingL w' a l bs := fun w' h => hTW.bel ringE h
    clear hT hfit
    go_enter Try.func4, Try.ntmps4
    go_wp2_with fail
    rw [← HW.out]
    refine (szRingS_any _ _ _ l bs 1048576 _ hTW Hn.out hM (by decide) (by decide)).mono ?_
    rintro e w1 ⟨rfl, hb1⟩
    rw [Hr.out]
    have g1 : Bel W w1 := hb1
    go_wp2
    go_region_held3 (fun w' => Bel W w') (with_reducible (repeat (first | assumption | exact g1 | refine Bel.drew ?_ | refine bel_then (by assumption) ?_)))
      (first
        | (go_at_call 14; refine (toRingS_any _ _ _ l bs _ (hT6 _ (by assumption)) Hn.out hm HS.out).mono ?_; rintro e w2 ⟨B2, d2, rfl, V2, _, hb2⟩)
        | (go_at_call 15; refine (toPoint_any _ _ _).mono ?_; rintro e w3 ⟨rfl, hb3⟩)
        | (go_at_call 13; refine (specInside_any _ _ _ l d2 _ _ _ (V2.bel ringE hb3) Hn.out hm HS.out).mono ?_; rintro e w4 ⟨rfl, hb4⟩; rw [Hz.out]))
    have g4 : Bel W w4 := by assumption
    clear hb3 hb4 V2
    go_wp2_with fail
    refine (toRingS_any _ _ _ l bs _ (hT6 _ g4) Hn.out hm HS.out).mono ?_
    rintro e w5 ⟨B5, d5, rfl, V5, _, hb5⟩
    have g5 := bel_step g4 hb5
    go_wp2_with fail
    refine (toPoint_any _ _ _).mono ?_
    rintro e w6 ⟨rfl, hb6⟩
    have g6 := bel_step g5 hb6
    have V6 := V5.bel ringE hb6
    go_wp2_with fail
    refine (inside_any _ _ _ l d5 _ _ _ V6 Hn.out hm HS.out).mono ?_
    rintro e w7 ⟨rfl, hb7⟩
    rw [Hz.out]
    have g7 := bel_step g6 hb7
    have V7 := V6.bel ringE hb7
    go_wp2_with fail
    refine (toRingS_any _ _ _ l bs _ (hT6 _ g7) Hn.out hm HS.out).mono ?_
    rintro e w8 ⟨B8, d8, rfl, V8, _, hb8⟩
    have g8 := bel_step g7 hb8
    go_wp2_with fail
    refine (eqRingS_same _ _ _ _ _ l d5 d8 _ (V7.bel ringE hb8) V8 Hn.out hm HS.out).mono ?_
    rintro e w9 ⟨rfl, hb9⟩
    go_wp2
    go_ret
    exact ⟨rfl, bel_step hBW (bel_step g8 hb9)⟩
  · clear hT
    go_enter Try.func4, Try.ntmps4
    go_wp2_with fail
    rw [← HW.out]
    refine (szRingS_any _ _ _ l bs 1048576 _ hTW Hn.out hM (by decide) (by decide)).mono ?_
    rintro e w1 ⟨rfl, hb1⟩
    rw [Hr.out]
    go_wp2
    go_ret
    exact ⟨rfl, bel_step hBW hb1⟩

theorem fnExactInside_own : ownKnob Try.prog.godebug = none := by kernel_rfl
theorem fnExactInside_laidOut : laidOutB Try.prog = true := by kernel_rfl

set_option maxRecDepth 100000 in
theorem fnExactInside_lifted (os : Os) (started : os.Started) (H : Type) (enc : TypeId × Value → H) :
    ReturnsInHanded {} Try.checked os 4 .any (Rows.fnExactInsideSpec.pre6 enc Try.prog Try.f4 Rows.fnExactInsideRow.domain false) (Rows.fnExactInsideSpec.post enc Try.prog Try.f4 false true false false) := by
  refine returnsInHanded_of_change (C := Try.checked) fnExactInside_own started (by kernel_rfl) Try.func4
    (ChangeSpec.witness6 (enc := enc) (C := Try.checked) false ⟨#[], #[.slice none 0 0, .agg #[.int .i64 0, .int .i64 0]], []⟩ 8 (by kernel_rfl) (by kernel_rfl) (by kernel_rfl) (by kernel_rfl)) ?_
  intro W base args ds gs before hval0 hW hcnd _
  have hval : ∀ (j : Nat) t v, Try.f4.params[j]? = some t → args[j]? = some v → Value.okWide Try.prog W .any base t v := hval0
  have hW' := hW
  obtain ⟨p, q, hA0, hV, rfl, hfz, hnd⟩ := hW
  have hA : DataW.TrodAll enc Try.prog W 0 (fun _ => true) true Try.f4.params.toList args.toList ds p := hA0
  rw [Try.params4] at hA hval
  obtain ⟨v0, vs0, d0, ds0, p0, q0, hargs, rfl, rfl, h0, r0⟩ := trodAll_cons hA
  obtain ⟨v1, vs1, d1, ds1, p1, q1, rfl, rfl, rfl, h1, r1⟩ := trodAll_cons r0
  obtain ⟨rfl, rfl, rfl⟩ := trodAll_nil r1
  obtain rfl : args = #[v0, v1] := by cases args; simp_all
  obtain ⟨rfl, rfl⟩ := trodVars_none hV
  have k0 := h0
  have lt0 : ∀ x ∈ p0, x.block < W.heap.size := by obtain ⟨m, hm⟩ := k0; exact DataW.trod_lt m _ _ _ hm
  obtain ⟨a0, c0, l0, bs0, rfl, ip0, im0⟩ := open_rings (hval 0 29 v0 rfl rfl) h0
  have k1 := h1
  have lt1 : ∀ x ∈ p1, x.block < W.heap.size := by obtain ⟨m, hm⟩ := k1; exact DataW.trod_lt m _ _ _ hm
  obtain ⟨x1, y1, rfl, wx1, wy1⟩ := open_pt (hval 1 31 v1 rfl rfl) h1
  clear hA0 hval0
  refine (lawFnExactInside_any a0 c0 l0 bs0 x1 y1 W ip0 im0 wx1 wy1).mono fun e W' ⟨he, bel0⟩ => ?_
  have bel := bel0.out
  subst he
  exact ⟨_, rfl, _, _, _, [], _, [], hW', trodAll_mk1 (shut_bool Try.underlying4 _), (trodAll_cons_mk (Below.trod fnExactInside_laidOut (by kernel_rfl) (of_decide_eq_true (by kernel_rfl)) k0 bel lt0) (trodAll_cons_mk (Below.trod fnExactInside_laidOut (by kernel_rfl) (of_decide_eq_true (by kernel_rfl)) k1 bel lt1) trodAll_mk0)), rfl, bel.frame _, fun h => by cases h⟩

theorem fnExactInside_over : Rows.fnExactInsideRow.holds Try.pinned (OpenSpec.ofChange Rows.fnExactInsideSpec) :=
  OpenClaim.holds_of_wide 4 Try.f4 rfl rfl rfl rfl rfl rfl rfl ⟨rfl, rfl, rfl, rfl, rfl⟩ rfl rfl rfl rfl rfl (by kernel_rfl) Try.func4 (by kernel_rfl)
    (of_decide_eq_true (by kernel_rfl)) (by unfold Func.isWrapper; first | (rw [if_pos (by decide +kernel)]; kernel_rfl) | (rw [if_neg (by decide +kernel)]; exact ⟨rfl, rfl⟩))
    (fun os started H enc _ => fnExactInside_lifted os started H enc)

theorem fnExactInside_holds : Rows.FnExactInsideSaid := fnExactInside_over
#print axioms fnExactInside_holds
end Go.Proofs.Ytapipkcdnmehlaa
