/-
  PROVED: for every row and every number Simplify keeps what its model keeps; the row that was handed in stays as it was; the answer shares no memory with it nor with the answer of another call. No condition.
-/
import Derived.Test.YtoeaplcijdlhnaaOwnC
namespace Go.Proofs.Ytoeaplcijdlhnaa
open Go.ChangeShapes Go.WideShapes Go.ChangeAt Go.RowKit

set_option maxRecDepth 100000 in
set_option maxHeartbeats 4000000 in
theorem lawFnExactSimplify_any (a : Option Addr) (n c : Nat) (X Y : Nat → Int) (s : Int) (w : World) (hP : Pts w a n X Y) (hm : n ≤ 9223372036854775807) (_ws : (Lit.int .i64 s).wf = true) :
    Calls Try.prog 10 #[.slice a n c, .int .i64 s] w fun e w' => e = .returned (.bool true) ∧ Bel w w' := by
  by_cases hn : n ≤ 1048576
  · have hql := sq_len (s := s) (n := n) (X := X) (Y := Y)
    generalize hps : sq s n X Y = ps at hql
    have HPS : Hid (sq s n X Y = ps) := hps
    have hpl : ps.length ≤ 1048576 := by omega
    clear hps
    go_enter Try.func10, Try.ntmps10
    go_wp2_with fail
    refine (sz_fits _ _ _ _ hn).mono ?_
    rintro e w1 ⟨rfl, rfl⟩
    go_wp2_with fail
    refine (toPointS_any _ _ _ X Y _ hP hn).mono ?_
    rintro e w2 ⟨rfl, r2, hb2⟩
    go_wp2_with fail
    refine (specSimplify_any _ _ _ _ X Y s _ r2.pts (Nat.le_refl _) hn).mono ?_
    rintro e w3 ⟨v3, rfl, hown3, hb3⟩
    rw [HPS.out] at hown3
    obtain ⟨a3, c3, rfl⟩ := hown3.shape
    have hB3 := bel_step hb2 hb3
    have HO3 : Hid (Own w2.heap.size w3 (.slice a3 ps.length c3) ps) := hown3
    clear hown3 r2 hb2 hb3
    go_wp2_with fail
    refine (toPointS_any _ _ _ X Y _ (hP.bel hB3) hn).mono ?_
    rintro e w4 ⟨rfl, r4, hb4⟩
    have hB4 := bel_step hB3 hb4
    go_wp2_with fail
    refine (simplify_any _ _ _ X Y s _ r4.pts (Nat.le_refl _) hn).mono ?_
    rintro e w5 ⟨v5, rfl, hown5, hb5⟩
    rw [HPS.out] at hown5
    obtain ⟨a5, c5, rfl⟩ := hown5.shape
    have hB5 := bel_step hB4 hb5
    have p3 := (Own.pts HO3.out).2.bel (bel_step hb4 hb5)
    have p5 := (Own.pts hown5).2
    have HO5 : Hid (Own w4.heap.size w5 (.slice a5 ps.length c5) ps) := hown5
    clear hown5
    go_wp2_with fail
    refine (eqPointS_same _ _ _ _ _ (lX ps) (lY ps) _ p5 p3 hpl).mono ?_
    rintro e w6 ⟨rfl, hb6⟩
    have hB6 := bel_step hB5 hb6
    go_wp2_with fail
    refine (toPointS_any _ _ _ X Y _ (hP.bel hB6) hn).mono ?_
    rintro e w7 ⟨rfl, r7, hb7⟩
    go_wp2_with fail
    refine (eqPointS_same _ _ _ _ _ X Y _ (r4.bel (bel_step (bel_step hb5 hb6) hb7)).pts r7.pts hn).mono ?_
    rintro e w8 ⟨rfl, hb8⟩
    have hB8 := bel_step (bel_step hB6 hb7) hb8
    have h58 := bel_step (bel_step hb6 hb7) hb8
    have r8 := r4.bel (bel_step hb5 h58)
    have p3 := p3.bel h58
    have p5 := p5.bel h58
    have l3 := Own.lies HO3.out
    have l5 := Own.lies HO5.out
    have h34 : w3.heap.size < w4.heap.size := r4.lt
    have q3 : ps.length ≠ 0 → ∀ b off, a3 = some ⟨b, off, none⟩ → b < w3.heap.size := fun h b off e => (l3.at h e).2.1
    have q5 : ps.length ≠ 0 → ∀ b off, a5 = some ⟨b, off, none⟩ → w4.heap.size ≤ b := fun h b off e => (l5.at h e).1
    have Q3 : Hid (ps.length ≠ 0 → ∀ b off, a3 = some ⟨b, off, none⟩ → b < w3.heap.size) := q3
    have Q5 : Hid (ps.length ≠ 0 → ∀ b off, a5 = some ⟨b, off, none⟩ → w4.heap.size ≤ b) := q5
    have L5 : Hid (Lies (fun g => w4.heap.size ≤ g ∧ Room w8 g (ps.length * 2)) a5 ps.length) := l5.imp fun g h => ⟨h.1, h.2.2.bel h58⟩
    have hk0 : ¬ 1 + 2 * (n : Int) < 0 := by omega
    have hk1 : ¬ 1 + 2 * (ps.length : Int) < 0 := by omega
    clear l3 l5 q3 q5 HO3 HO5 h58 r4 hb5 hb6 hb7 hb8 hB5 hB6
    go_wp2_with fail
    refine (mark_any w3.heap.size n n w1 w8 hB8 hB3.out.size r8.room hn).mono ?_
    rintro e w9 ⟨rfl, hBt, _⟩
    have p3 := hBt.save.pts p3 (fun h b off e => by have := Q3.out h b off e; omega)
    have p5 := hBt.save.pts p5 (fun h b off e => by have := Q5.out h b off e; omega)
    have L9 : Hid (Lies (fun g => w4.heap.size ≤ g ∧ Room w9 g (ps.length * 2)) a5 ps.length) := L5.out.imp fun g h => ⟨h.1, hBt.roomAt h.2 (by omega)⟩
    have hB9 := hBt.b
    clear L5 hBt r8 hB8
    go_wp2_with fail
    refine (eqPointS_same _ _ _ _ _ (lX ps) (lY ps) _ p5 p3 hpl).mono ?_
    rintro e w10 ⟨rfl, hb10⟩
    have hB10 := bel_step hB9 hb10
    have p3 := p3.bel hb10
    have L10 : Lies (fun g => w1.heap.size ≤ g ∧ Room w10 g (ps.length * 2)) a5 ps.length := L9.out.imp fun g h => ⟨Nat.le_trans hB4.out.size h.1, h.2.bel hb10⟩
    clear L9 p5
    go_wp2_with fail
    refine (markOwn a5 ps.length c5 w1 w10 hB10 L10 hpl).mono ?_
    rintro e w11 ⟨rfl, sv, lm⟩
    have p3 := sv.pts p3 (fun h b off e => by
      have := Q3.out h b off e
      rintro ⟨_, e'⟩
      have := Q5.out h b 0 e'
      omega)
    have LM : Hid (Lies (fun g => g < w11.heap.size ∧ Mk w11 g ps.length) a5 ps.length) := lm
    have hB11 := sv.b
    clear sv lm L10 hB10 hb10
    go_wp2_with fail
    refine (heldOwn a5 ps.length c5 w11 LM.out hpl).mono ?_
    rintro e w12 ⟨rfl, rfl⟩
    go_wp2_with fail
    refine (toPointS_any _ _ _ X Y _ (hP.bel hB11) hn).mono ?_
    rintro e w13 ⟨rfl, r13, hb13⟩
    go_wp2_with fail
    refine (simplify_any _ _ _ X Y s _ r13.pts (Nat.le_refl _) hn).mono ?_
    rintro e w14 ⟨v14, rfl, hown14, hb14⟩
    rw [HPS.out] at hown14
    obtain ⟨a14, c14, rfl⟩ := hown14.shape
    have p14 := (Own.pts hown14).2
    have h1114 := bel_step hb13 hb14
    have p3 := p3.bel h1114
    clear hown14 hb13 hb14
    go_wp2_with fail
    refine (eqPointS_same _ _ _ _ _ (lX ps) (lY ps) _ p14 p3 hpl).mono ?_
    rintro e w15 ⟨rfl, hb15⟩
    have h1115 := bel_step h1114 hb15
    go_wp2_with fail
    refine (heldOwn a5 ps.length c5 w15 (LM.out.bel h1115) hpl).mono ?_
    rintro e w16 ⟨rfl, rfl⟩
    go_wp2
    go_ret
    exact ⟨rfl, bel_step hB11 h1115⟩
  · go_enter Try.func10, Try.ntmps10
    go_wp2_with fail
    refine (sz_not _ _ _ _ (by omega) hm).mono ?_
    rintro e w1 ⟨rfl, rfl⟩
    go_wp2
    go_ret
    exact ⟨rfl, Bel.refl _⟩

theorem fnExactSimplify_own : ownKnob Try.prog.godebug = none := by kernel_rfl
theorem fnExactSimplify_laidOut : laidOutB Try.prog = true := by kernel_rfl

set_option maxRecDepth 100000 in
theorem fnExactSimplify_lifted (os : Os) (started : os.Started) (H : Type) (enc : TypeId × Value → H) :
    ReturnsInHanded {} Try.checked os 10 .any (Rows.fnExactSimplifySpec.pre6 enc Try.prog Try.f10 Rows.fnExactSimplifyRow.domain false) (Rows.fnExactSimplifySpec.post enc Try.prog Try.f10 false true false false) := by
  refine returnsInHanded_of_change (C := Try.checked) fnExactSimplify_own started (by kernel_rfl) Try.func10
    (ChangeSpec.witness6 (enc := enc) (C := Try.checked) false ⟨#[], #[.slice none 0 0, .int .i64 0], []⟩ 8 (by kernel_rfl) (by kernel_rfl) (by kernel_rfl) (by kernel_rfl)) ?_
  intro W base args ds gs before hval0 hW hcnd _
  have hval : ∀ (j : Nat) t v, Try.f10.params[j]? = some t → args[j]? = some v → Value.okWide Try.prog W .any base t v := hval0
  have hW' := hW
  obtain ⟨p, q, hA0, hV, rfl, hfz, hnd⟩ := hW
  have hA : DataW.TrodAll enc Try.prog W 0 (fun _ => true) true Try.f10.params.toList args.toList ds p := hA0
  rw [Try.params10] at hA hval
  obtain ⟨v0, vs0, d0, ds0, p0, q0, hargs, rfl, rfl, h0, r0⟩ := trodAll_cons hA
  obtain ⟨v1, vs1, d1, ds1, p1, q1, rfl, rfl, rfl, h1, r1⟩ := trodAll_cons r0
  obtain ⟨rfl, rfl, rfl⟩ := trodAll_nil r1
  obtain rfl : args = #[v0, v1] := by cases args; simp_all
  obtain ⟨rfl, rfl⟩ := trodVars_none hV
  have k0 := h0
  have lt0 : ∀ x ∈ p0, x.block < W.heap.size := by obtain ⟨m, hm⟩ := k0; exact DataW.trod_lt m _ _ _ hm
  obtain ⟨a0, n0, c0, X0, Y0, rfl, ip0, im0⟩ := open_pts (hval 0 32 v0 rfl rfl) h0
  have k1 := h1
  have lt1 : ∀ x ∈ p1, x.block < W.heap.size := by obtain ⟨m, hm⟩ := k1; exact DataW.trod_lt m _ _ _ hm
  obtain ⟨x1, rfl, _, _, wx1⟩ := open_int Try.underlying2 (hval 1 2 v1 rfl rfl) h1
  clear hA0 hval0
  refine (lawFnExactSimplify_any a0 n0 c0 X0 Y0 x1 W ip0 im0 wx1).mono fun e W' ⟨he, bel0⟩ => ?_
  have bel := bel0.out
  subst he
  exact ⟨_, rfl, _, _, _, [], _, [], hW', trodAll_mk1 (shut_bool Try.underlying4 _), (trodAll_cons_mk (Below.trod fnExactSimplify_laidOut (by kernel_rfl) (of_decide_eq_true (by kernel_rfl)) k0 bel lt0) (trodAll_cons_mk (Below.trod fnExactSimplify_laidOut (by kernel_rfl) (of_decide_eq_true (by kernel_rfl)) k1 bel lt1) trodAll_mk0)), rfl, bel.frame _, fun h => by cases h⟩

theorem fnExactSimplify_over : Rows.fnExactSimplifyRow.holds Try.pinned (OpenSpec.ofChange Rows.fnExactSimplifySpec) :=
  OpenClaim.holds_of_wide 10 Try.f10 rfl rfl rfl rfl rfl rfl rfl ⟨rfl, rfl, rfl, rfl, rfl⟩ rfl rfl rfl rfl rfl (by kernel_rfl) Try.func10 (by kernel_rfl)
    (of_decide_eq_true (by kernel_rfl)) (by unfold Func.isWrapper; first | (rw [if_pos (by decide +kernel)]; kernel_rfl) | (rw [if_neg (by decide +kernel)]; exact ⟨rfl, rfl⟩))
    (fun os started H enc _ => fnExactSimplify_lifted os started H enc)

theorem fnExactSimplify_holds : Rows.FnExactSimplifySaid := fnExactSimplify_over
#print axioms fnExactSimplify_holds
end Go.Proofs.Ytoeaplcijdlhnaa
