/-
  PROVED: for every row of bytes the law FnRootBounds says true: roots lie where they must, distances are even-handed, at least each difference, at most both together. No condition.
-/
import Derived.Test.YtelaljcglhmmnaaDrawR
import Derived.Test.YtelaljcglhmmnaaRootB
import Derived.Test.YtelaljcglhmmnaaOpenB
namespace Go.Proofs.Ytelaljcglhmmnaa
open Go.ChangeShapes Go.WideShapes Go.ChangeAt Go.RowKit

set_option maxRecDepth 100000 in
set_option maxHeartbeats 4000000 in
theorem lawFnRootBounds_any (a : Option Addr) (n c : Nat) (w : World) (hS : Bts w a n) (_hm : n ≤ 9223372036854775807) :
    Calls Try.prog 3 #[.slice a n c] w fun e w' => e = .returned (.bool true) ∧ Bel w w' := by
  by_cases hn : n ≤ 1048576
  · have hbig : decide (1048576 < (n : Int)) = false := by simp; omega
    go_enter Try.func3, Try.ntmps3
    go_wp2_with fail
    refine (big_any _ _ _ _).mono ?_
    rintro e w1 ⟨rfl, rfl⟩
    rw [hbig]
    go_wp2_with fail
    refine (drawRoot_any _ _ _ _ hS hn).mono ?_
    rintro e w2 ⟨m, rfl, ⟨m0, m1⟩, hb2⟩
    go_wp2_with fail
    refine (implRoot_any _ _ ⟨m0, m1⟩).mono ?_
    rintro e w3 ⟨rfl, rfl⟩
    by_cases hneg : m < 0
    · have er : rootOf m = -1 := by rcases rootOf_spec m with ⟨_, h⟩ | ⟨h, _⟩ <;> omega
      rw [er]
      go_wp2_with fail
      refine (implRoot_any 9 _ ⟨by decide, by decide⟩).mono ?_
      rintro e w4 ⟨rfl, rfl⟩
      rw [root_nine]
      clear er
      go_wp2
      go_ret
      exact ⟨rfl, hb2⟩
    · obtain ⟨r, er, r0, r1, r2, r3, r4, r5⟩ := root_facts (by omega : 0 ≤ m) m1
      rw [er]
      clear er
      have k0 : ¬ r < 0 := by omega
      have k1 : ¬ 3037000499 < r := by omega
      have k2 : ¬ m < r * r := by omega
      have k3 : ¬ (r + 1) * (r + 1) ≤ m := by omega
      have hw1 : IntKind.i64.wrap (r * r) = r * r := by rw [IntKind.wrap_i64]; omega
      have hw2 : IntKind.i64.wrap (r + 1) = r + 1 := by rw [IntKind.wrap_i64]; omega
      go_wp2_with fail
      refine (implRoot_any 9 _ ⟨by decide, by decide⟩).mono ?_
      rintro e w4 ⟨rfl, rfl⟩
      rw [root_nine]
      by_cases hr : r < 3037000499
      · have r6 := r5 hr
        have r7 : 0 ≤ (r + 1) * (r + 1) := sq_nonneg _
        have hw3 : IntKind.i64.wrap ((r + 1) * (r + 1)) = (r + 1) * (r + 1) := by rw [IntKind.wrap_i64]; omega
        clear r5
        go_wp2_with fail
        refine (drawDistance_any _ _ _ _ (hS.bel hb2) hn).mono ?_
        rintro e w5 ⟨x0, y0, x1, y1, rfl, hb5⟩
        have hB5 := bel_step hb2 hb5
        have hW : Bel w5 ((w5.alloc (.cells #[.int .i64 x0, .int .i64 y0] 27)).alloc (.cells #[.int .i64 x1, .int .i64 y1] 27)) := bel_alloc (bel_alloc (Bel.refl _) _) _
        have c0 : ((w5.alloc (.cells #[.int .i64 x0, .int .i64 y0] 27)).alloc (.cells #[.int .i64 x1, .int .i64 y1] 27)).cell? ⟨w5.heap.size, 0, none⟩ = some (.int .i64 x0) := by simp [go_sem]
        have c1 : ((w5.alloc (.cells #[.int .i64 x0, .int .i64 y0] 27)).alloc (.cells #[.int .i64 x1, .int .i64 y1] 27)).cell? ⟨w5.heap.size, 1, none⟩ = some (.int .i64 y0) := by simp [go_sem]
        have c2 : ((w5.alloc (.cells #[.int .i64 x0, .int .i64 y0] 27)).alloc (.cells #[.int .i64 x1, .int .i64 y1] 27)).cell? ⟨w5.heap.size + 1, 0, none⟩ = some (.int .i64 x1) := by simp [go_sem]
        have c3 : ((w5.alloc (.cells #[.int .i64 x0, .int .i64 y0] 27)).alloc (.cells #[.int .i64 x1, .int .i64 y1] 27)).cell? ⟨w5.heap.size + 1, 1, none⟩ = some (.int .i64 y1) := by simp [go_sem]
        have l0 : w5.heap.size < ((w5.alloc (.cells #[.int .i64 x0, .int .i64 y0] 27)).alloc (.cells #[.int .i64 x1, .int .i64 y1] 27)).heap.size := by simp; omega
        have l1 : w5.heap.size + 1 < ((w5.alloc (.cells #[.int .i64 x0, .int .i64 y0] 27)).alloc (.cells #[.int .i64 x1, .int .i64 y1] 27)).heap.size := by simp
        clear k0 k1 k2 k3 hw1 hw2 r6 r7 hw3 r0 r1 r2 r3 r4 hneg m0 m1
        go_wp2_with fail
        refine (distance_any _ _ _ _ _).mono ?_
        rintro e w6 ⟨rfl, hb6⟩
        generalize ((w5.alloc (.cells #[.int .i64 x0, .int .i64 y0] 27)).alloc (.cells #[.int .i64 x1, .int .i64 y1] 27)) = W at hW c0 c1 c2 c3 l0 l1 hb6
        have hB6 := bel_step (bel_step hB5 hW) hb6
        have hR : ∀ v, Bel W v → v.cell? ⟨w5.heap.size, 0, none⟩ = some (.int .i64 x0) ∧ v.cell? ⟨w5.heap.size, 1, none⟩ = some (.int .i64 y0) ∧ v.cell? ⟨w5.heap.size + 1, 0, none⟩ = some (.int .i64 x1) ∧ v.cell? ⟨w5.heap.size + 1, 1, none⟩ = some (.int .i64 y1) := fun v h => ⟨cur_cell h l0 c0, cur_cell h l0 c1, cur_cell h l1 c2, cur_cell h l1 c3⟩
        clear c0 c1 c2 c3 l0 l1 hW hb2 hb5 hB5
        go_wp2_with fail
        refine (pointOk_any _ _ _).mono ?_
        rintro e w7 ⟨rfl, hb7⟩
        have g7 := bel_step hb6 hb7
        have hB7 := bel_step hB6 hb7
        by_cases pa : pok x0 y0 = true
        · go_wp2_with fail
          refine (pointOk_any _ _ _).mono ?_
          rintro e w8 ⟨rfl, hb8⟩
          have g8 := bel_step g7 hb8
          have hB8 := bel_step hB7 hb8
          by_cases pb : pok x1 y1 = true
          · have ka := pOk_iff.1 pa
            have kb := pOk_iff.1 pb
            obtain ⟨a0, a1, a2, a3⟩ := ka
            obtain ⟨b0, b1, b2, b3⟩ := kb
            obtain ⟨f1, f2, f3, f4, f5⟩ := dist_facts (pOk_iff.1 pa) (pOk_iff.1 pb)
            have e1 : distOf x0 y0 x1 y1 = dOf x0 y0 x1 y1 := by simp [distOf, pa, pb]
            have e2 : distOf x1 y1 x0 y0 = dOf x0 y0 x1 y1 := by rw [← f1]; simp [distOf, pa, pb]
            have ez : x0 = x1 → y0 = y1 → dOf x0 y0 x1 y1 = 0 := fun h k => by subst h; subst k; omega
            rw [e1]
            generalize dOf x0 y0 x1 y1 = D at f1 f2 f3 f4 f5 e1 e2 ez ⊢
            have HZ : Hid (x0 = x1 → y0 = y1 → D = 0) := ez
            have HF : Hid (D = 0 → x0 = x1 ∧ y0 = y1) := f5
            have E2 : Hid (distOf x1 y1 x0 y0 = D) := e2
            clear f1 f5 e1 e2 ez
            go_wp2_with fail
            refine (absL_any _ _ (by omega) (by omega)).mono ?_
            rintro e w9 ⟨rfl, rfl⟩
            go_wp2_with fail
            refine (absL_any _ _ (by omega) (by omega)).mono ?_
            rintro e w10 ⟨rfl, rfl⟩
            have p0 : 0 ≤ max (x0 - x1) (-(x0 - x1)) := by omega
            have p1 : max (x0 - x1) (-(x0 - x1)) ≤ 20000000 := by omega
            have q0 : 0 ≤ max (y0 - y1) (-(y0 - y1)) := by omega
            have q1 : max (y0 - y1) (-(y0 - y1)) ≤ 20000000 := by omega
            generalize max (x0 - x1) (-(x0 - x1)) = p at p0 p1 f2 f4 ⊢
            generalize max (y0 - y1) (-(y0 - y1)) = q at q0 q1 f3 f4 ⊢
            go_wp2_with fail
            refine (distance_any _ _ _ _ _).mono ?_
            rintro e w11 ⟨rfl, hb11⟩
            rw [E2.out]
            have g11 := bel_step g8 hb11
            have hB11 := bel_step hB8 hb11
            by_cases heq : x0 = x1 ∧ y0 = y1
            · obtain ⟨rfl, rfl⟩ := heq
              have hD := HZ.out rfl rfl
              subst hD
              clear HZ HF E2
              go_wp2
              go_ret
              exact ⟨rfl, hB11⟩
            · have hD : ¬ D = 0 := fun h => heq (HF.out h)
              have hDz : (D == 0) = false := by simp [hD]
              have hne : ¬ x0 = x1 ∨ ¬ y0 = y1 := by
                by_cases h : x0 = x1
                · exact .inr fun k => heq ⟨h, k⟩
                · exact .inl h
              clear HZ HF E2 heq
              rcases hne with hne | hne
              all_goals
                go_wp2
                go_ret
                exact ⟨rfl, hB11⟩
          · have pb : pok x1 y1 = false := by simpa using pb
            have e1 : distOf x0 y0 x1 y1 = -1 := by simp [distOf, pb]
            rw [e1]
            clear e1
            go_wp2
            go_ret
            exact ⟨rfl, hB8⟩
        · have pa : pok x0 y0 = false := by simpa using pa
          have e1 : distOf x0 y0 x1 y1 = -1 := by simp [distOf, pa]
          rw [e1]
          clear e1
          go_wp2
          go_ret
          exact ⟨rfl, hB7⟩
      · clear r5
        go_wp2_with fail
        refine (drawDistance_any _ _ _ _ (hS.bel hb2) hn).mono ?_
        rintro e w5 ⟨x0, y0, x1, y1, rfl, hb5⟩
        have hB5 := bel_step hb2 hb5
        have hW : Bel w5 ((w5.alloc (.cells #[.int .i64 x0, .int .i64 y0] 27)).alloc (.cells #[.int .i64 x1, .int .i64 y1] 27)) := bel_alloc (bel_alloc (Bel.refl _) _) _
        have c0 : ((w5.alloc (.cells #[.int .i64 x0, .int .i64 y0] 27)).alloc (.cells #[.int .i64 x1, .int .i64 y1] 27)).cell? ⟨w5.heap.size, 0, none⟩ = some (.int .i64 x0) := by simp [go_sem]
        have c1 : ((w5.alloc (.cells #[.int .i64 x0, .int .i64 y0] 27)).alloc (.cells #[.int .i64 x1, .int .i64 y1] 27)).cell? ⟨w5.heap.size, 1, none⟩ = some (.int .i64 y0) := by simp [go_sem]
        have c2 : ((w5.alloc (.cells #[.int .i64 x0, .int .i64 y0] 27)).alloc (.cells #[.int .i64 x1, .int .i64 y1] 27)).cell? ⟨w5.heap.size + 1, 0, none⟩ = some (.int .i64 x1) := by simp [go_sem]
        have c3 : ((w5.alloc (.cells #[.int .i64 x0, .int .i64 y0] 27)).alloc (.cells #[.int .i64 x1, .int .i64 y1] 27)).cell? ⟨w5.heap.size + 1, 1, none⟩ = some (.int .i64 y1) := by simp [go_sem]
        have l0 : w5.heap.size < ((w5.alloc (.cells #[.int .i64 x0, .int .i64 y0] 27)).alloc (.cells #[.int .i64 x1, .int .i64 y1] 27)).heap.size := by simp; omega
        have l1 : w5.heap.size + 1 < ((w5.alloc (.cells #[.int .i64 x0, .int .i64 y0] 27)).alloc (.cells #[.int .i64 x1, .int .i64 y1] 27)).heap.size := by simp
        clear k0 k1 k2 k3 hw1 hw2 r0 r1 r2 r3 r4 hneg m0 m1
        go_wp2_with fail
        refine (distance_any _ _ _ _ _).mono ?_
        rintro e w6 ⟨rfl, hb6⟩
        generalize ((w5.alloc (.cells #[.int .i64 x0, .int .i64 y0] 27)).alloc (.cells #[.int .i64 x1, .int .i64 y1] 27)) = W at hW c0 c1 c2 c3 l0 l1 hb6
        have hB6 := bel_step (bel_step hB5 hW) hb6
        have hR : ∀ v, Bel W v → v.cell? ⟨w5.heap.size, 0, none⟩ = some (.int .i64 x0) ∧ v.cell? ⟨w5.heap.size, 1, none⟩ = some (.int .i64 y0) ∧ v.cell? ⟨w5.heap.size + 1, 0, none⟩ = some (.int .i64 x1) ∧ v.cell? ⟨w5.heap.size + 1, 1, none⟩ = some (.int .i64 y1) := fun v h => ⟨cur_cell h l0 c0, cur_cell h l0 c1, cur_cell h l1 c2, cur_cell h l1 c3⟩
        clear c0 c1 c2 c3 l0 l1 hW hb2 hb5 hB5
        go_wp2_with fail
        refine (pointOk_any _ _ _).mono ?_
        rintro e w7 ⟨rfl, hb7⟩
        have g7 := bel_step hb6 hb7
        have hB7 := bel_step hB6 hb7
        by_cases pa : pok x0 y0 = true
        · go_wp2_with fail
          refine (pointOk_any _ _ _).mono ?_
          rintro e w8 ⟨rfl, hb8⟩
          have g8 := bel_step g7 hb8
          have hB8 := bel_step hB7 hb8
          by_cases pb : pok x1 y1 = true
          · have ka := pOk_iff.1 pa
            have kb := pOk_iff.1 pb
            obtain ⟨a0, a1, a2, a3⟩ := ka
            obtain ⟨b0, b1, b2, b3⟩ := kb
            obtain ⟨f1, f2, f3, f4, f5⟩ := dist_facts (pOk_iff.1 pa) (pOk_iff.1 pb)
            have e1 : distOf x0 y0 x1 y1 = dOf x0 y0 x1 y1 := by simp [distOf, pa, pb]
            have e2 : distOf x1 y1 x0 y0 = dOf x0 y0 x1 y1 := by rw [← f1]; simp [distOf, pa, pb]
            have ez : x0 = x1 → y0 = y1 → dOf x0 y0 x1 y1 = 0 := fun h k => by subst h; subst k; omega
            rw [e1]
            generalize dOf x0 y0 x1 y1 = D at f1 f2 f3 f4 f5 e1 e2 ez ⊢
            have HZ : Hid (x0 = x1 → y0 = y1 → D = 0) := ez
            have HF : Hid (D = 0 → x0 = x1 ∧ y0 = y1) := f5
            have E2 : Hid (distOf x1 y1 x0 y0 = D) := e2
            clear f1 f5 e1 e2 ez
            go_wp2_with fail
            refine (absL_any _ _ (by omega) (by omega)).mono ?_
            rintro e w9 ⟨rfl, rfl⟩
            go_wp2_with fail
            refine (absL_any _ _ (by omega) (by omega)).mono ?_
            rintro e w10 ⟨rfl, rfl⟩
            have p0 : 0 ≤ max (x0 - x1) (-(x0 - x1)) := by omega
            have p1 : max (x0 - x1) (-(x0 - x1)) ≤ 20000000 := by omega
            have q0 : 0 ≤ max (y0 - y1) (-(y0 - y1)) := by omega
            have q1 : max (y0 - y1) (-(y0 - y1)) ≤ 20000000 := by omega
            generalize max (x0 - x1) (-(x0 - x1)) = p at p0 p1 f2 f4 ⊢
            generalize max (y0 - y1) (-(y0 - y1)) = q at q0 q1 f3 f4 ⊢
            go_wp2_with fail
            refine (distance_any _ _ _ _ _).mono ?_
            rintro e w11 ⟨rfl, hb11⟩
            rw [E2.out]
            have g11 := bel_step g8 hb11
            have hB11 := bel_step hB8 hb11
            by_cases heq : x0 = x1 ∧ y0 = y1
            · obtain ⟨rfl, rfl⟩ := heq
              have hD := HZ.out rfl rfl
              subst hD
              clear HZ HF E2
              go_wp2
              go_ret
              exact ⟨rfl, hB11⟩
            · have hD : ¬ D = 0 := fun h => heq (HF.out h)
              have hDz : (D == 0) = false := by simp [hD]
              have hne : ¬ x0 = x1 ∨ ¬ y0 = y1 := by
                by_cases h : x0 = x1
                · exact .inr fun k => heq ⟨h, k⟩
                · exact .inl h
              clear HZ HF E2 heq
              rcases hne with hne | hne
              all_goals
                go_wp2
                go_ret
                exact ⟨rfl, hB11⟩
          · have pb : pok x1 y1 = false := by simpa using pb
            have e1 : distOf x0 y0 x1 y1 = -1 := by simp [distOf, pb]
            rw [e1]
            clear e1
            go_wp2
            go_ret
            exact ⟨rfl, hB8⟩
        · have pa : pok x0 y0 = false := by simpa using pa
          have e1 : distOf x0 y0 x1 y1 = -1 := by simp [distOf, pa]
          rw [e1]
          clear e1
          go_wp2
          go_ret
          exact ⟨rfl, hB7⟩
  · have hbig : decide (1048576 < (n : Int)) = true := by simp; omega
    go_enter Try.func3, Try.ntmps3
    go_wp2_with fail
    refine (big_any _ _ _ _).mono ?_
    rintro e w1 ⟨rfl, rfl⟩
    rw [hbig]
    go_wp2
    go_ret
    exact ⟨rfl, Bel.refl _⟩

theorem fnRootBounds_own : ownKnob Try.prog.godebug = none := by kernel_rfl
theorem fnRootBounds_laidOut : laidOutB Try.prog = true := by kernel_rfl

set_option maxRecDepth 100000 in
theorem fnRootBounds_lifted (os : Os) (started : os.Started) (H : Type) (enc : TypeId × Value → H) :
    ReturnsInHanded {} Try.checked os 3 .any (Rows.fnRootBoundsSpec.pre6 enc Try.prog Try.f3 Rows.fnRootBoundsRow.domain false) (Rows.fnRootBoundsSpec.post enc Try.prog Try.f3 false true false false) := by
  refine returnsInHanded_of_change (C := Try.checked) fnRootBounds_own started (by kernel_rfl) Try.func3
    (ChangeSpec.witness6 (enc := enc) (C := Try.checked) false ⟨#[], #[.slice none 0 0], []⟩ 8 (by kernel_rfl) (by kernel_rfl) (by kernel_rfl) (by kernel_rfl)) ?_
  intro W base args ds gs before hval0 hW hcnd _
  have hval : ∀ (j : Nat) t v, Try.f3.params[j]? = some t → args[j]? = some v → Value.okWide Try.prog W .any base t v := hval0
  have hW' := hW
  obtain ⟨p, q, hA0, hV, rfl, hfz, hnd⟩ := hW
  have hA : DataW.TrodAll enc Try.prog W 0 (fun _ => true) true Try.f3.params.toList args.toList ds p := hA0
  rw [Try.params3] at hA hval
  obtain ⟨v0, vs0, d0, ds0, p0, q0, hargs, rfl, rfl, h0, r0⟩ := trodAll_cons hA
  obtain ⟨rfl, rfl, rfl⟩ := trodAll_nil r0
  obtain rfl : args = #[v0] := by cases args; simp_all
  obtain ⟨rfl, rfl⟩ := trodVars_none hV
  have k0 := h0
  have lt0 : ∀ x ∈ p0, x.block < W.heap.size := by obtain ⟨m, hm⟩ := k0; exact DataW.trod_lt m _ _ _ hm
  obtain ⟨a0, n0, c0, rfl, ip0, im0⟩ := open_bytes (hval 0 22 v0 rfl rfl) h0
  clear hA0 hval0
  refine (lawFnRootBounds_any a0 n0 c0 W ip0 im0).mono fun e W' ⟨he, bel0⟩ => ?_
  have bel := bel0.out
  subst he
  exact ⟨_, rfl, _, _, _, [], _, [], hW', trodAll_mk1 (shut_bool Try.underlying4 _), (trodAll_cons_mk (Below.trod fnRootBounds_laidOut (by kernel_rfl) (of_decide_eq_true (by kernel_rfl)) k0 bel lt0) trodAll_mk0), rfl, bel.frame _, fun h => by cases h⟩

theorem fnRootBounds_over : Rows.fnRootBoundsRow.holds Try.pinned (OpenSpec.ofChange Rows.fnRootBoundsSpec) :=
  OpenClaim.holds_of_wide 3 Try.f3 rfl rfl rfl rfl rfl rfl rfl ⟨rfl, rfl, rfl, rfl, rfl⟩ rfl rfl rfl rfl rfl (by kernel_rfl) Try.func3 (by kernel_rfl)
    (of_decide_eq_true (by kernel_rfl)) (by unfold Func.isWrapper; first | (rw [if_pos (by decide +kernel)]; kernel_rfl) | (rw [if_neg (by decide +kernel)]; exact ⟨rfl, rfl⟩))
    (fun os started H enc _ => fnRootBounds_lifted os started H enc)

theorem fnRootBounds_holds : Rows.FnRootBoundsSaid := fnRootBounds_over
#print axioms fnRootBounds_holds
end Go.Proofs.Ytelaljcglhmmnaa
