/-
  Clipping in the model at any points of 64 bits: there is an answer, of points. Contracts.
-/
import Derived.Test.YtkmccjjghpnejaaCG
namespace Go.Proofs.Ytkmccjjghpnejaa
open Go.RowKit

theorem l6Floor_w (n d : Int) (w : World) (hd : ¬ d = 0) :
  Calls Try.prog 122 #[.int .i64 n, .int .i64 d] w fun r w' => ∃ t : Int, r = .returned (.int .i64 t) ∧ w' = w := by
 obtain ⟨q, hq⟩ : ∃ q, n.tdiv d = q := ⟨_, rfl⟩
 obtain ⟨r, hr⟩ : ∃ r, n.tmod d = r := ⟨_, rfl⟩
 obtain ⟨s, hs⟩ : ∃ s, IntKind.i64.wrap q = s := ⟨_, rfl⟩
 obtain ⟨t, ht⟩ : ∃ t, IntKind.i64.wrap (s - 1) = t := ⟨_, rfl⟩
 go_enter Try.func122, Try.ntmps122
 go_wp2
 all_goals go_ret
 ·exact ⟨t, rfl, rfl⟩
 ·exact ⟨s, rfl, rfl⟩
theorem between_is (x p q : Int) (t : Bool) (w : World) (ht : t = decide (min p q ≤ x ∧ x ≤ max p q)) :
  Calls Try.prog 115 #[.int .i64 x, .int .i64 p, .int .i64 q] w fun e w' => e = .returned (.bool t) ∧ w' = w := by
 have Ht : Hid (t = decide (min p q ≤ x ∧ x ≤ max p q)) := ht
 clear ht
 go_enter Try.func115, Try.ntmps115
 go_wp2
 all_goals (go_ret; exact ⟨ret_bl (by rw [Ht.out, Bool.eq_iff_iff]; simp; omega), rfl⟩)
theorem wrap_off {a b : Int} (ha : In64 a) (hb : In64 b) (h : a ≠ b) : ¬ IntKind.i64.wrap (b - a) = 0 := by
 unfold In64 at ha hb
 rw [IntKind.wrap_i64]
 omega

set_option maxRecDepth 100000 in
set_option maxHeartbeats 2000000 in
theorem l6Meet_upw (ax ay bx b_y e : Int) (w : World) (hd : ¬ IntKind.i64.wrap (bx - ax) = 0) (hns : ¬ bx < ax) :
  Calls Try.prog 116 #[pt ax ay, pt bx b_y, .int .i64 e, .bool false] w fun r w' => ∃ x y : Int, r = .returned (pt x y) ∧ Bel w w' := by
 obtain ⟨v1, k1⟩ : ∃ v, IntKind.i64.wrap (b_y - ay) = v := ⟨_, rfl⟩
 obtain ⟨v2, k2⟩ : ∃ v, IntKind.i64.wrap (e - ax) = v := ⟨_, rfl⟩
 obtain ⟨v3, k3⟩ : ∃ v, IntKind.i64.wrap (bx - ax) = v := ⟨_, rfl⟩
 obtain ⟨v4, k4⟩ : ∃ v, IntKind.i64.wrap (v2 * v1) = v := ⟨_, rfl⟩
 rw [k3] at hd
 have cF := fun w' => l6Floor_w v4 v3 w' hd
 obtain ⟨W, HW⟩ : ∃ W, Hid (W = ((w.alloc (.cells #[.int .i64 ax, .int .i64 ay] 31)).alloc (.cells #[.int .i64 bx, .int .i64 b_y] 31)).alloc (.cells #[.int .i64 0, .int .i64 0] 31)) := ⟨_, (rfl : ((w.alloc (.cells #[.int .i64 ax, .int .i64 ay] 31)).alloc (.cells #[.int .i64 bx, .int .i64 b_y] 31)).alloc (.cells #[.int .i64 0, .int .i64 0] 31) = _)⟩
 have hBW : Bel w W := by rw [HW.out]; exact bel_alloc (bel_alloc (bel_alloc (Bel.refl _) _) _) _
 have X0 : Blk W w.heap.size [.int .i64 ax, .int .i64 ay] := by rw [HW.out]; exact (Blk.new w [.int .i64 ax, .int .i64 ay] _).bel (bel_alloc (bel_alloc (Bel.refl _) _) _)
 have X1 : Blk W (w.heap.size + 1) [.int .i64 bx, .int .i64 b_y] := by rw [HW.out]; exact (Blk.new1 w _ [.int .i64 bx, .int .i64 b_y] _).bel (bel_alloc (Bel.refl _) _)
 have X2 : Blk W (w.heap.size + 1 + 1) [.int .i64 0, .int .i64 0] := by rw [HW.out]; exact Blk.new2 w _ _ [.int .i64 0, .int .i64 0] _
 have hR : ∀ v, Bel W v → v.cell? ⟨w.heap.size, 0, none⟩ = some (.int .i64 ax) ∧ v.cell? ⟨w.heap.size, 1, none⟩ = some (.int .i64 ay) ∧ v.cell? ⟨w.heap.size + 1, 0, none⟩ = some (.int .i64 bx) ∧ v.cell? ⟨w.heap.size + 1, 1, none⟩ = some (.int .i64 b_y) ∧ v.cell? ⟨w.heap.size + 1 + 1, 0, none⟩ = some (.int .i64 0) ∧ v.cell? ⟨w.heap.size + 1 + 1, 1, none⟩ = some (.int .i64 0) ∧ v.frozen? ⟨w.heap.size + 1 + 1, 0, none⟩ = false ∧ v.frozen? ⟨w.heap.size + 1 + 1, 1, none⟩ = false :=
  fun v h => ⟨(X0.bel h).cell 0 (by simp), (X0.bel h).cell 1 (by simp), (X1.bel h).cell 0 (by simp), (X1.bel h).cell 1 (by simp), (X2.bel h).cell 0 (by simp), (X2.bel h).cell 1 (by simp), (X2.bel h).free 0, (X2.bel h).free 1⟩
 have hR0 := hR W (Bel.refl _)
 have g0 : Bel W W := Bel.refl _
 go_enter Try.func116, Try.ntmps116
 go_upto_region 4 with fail
 rw [← HW.out]
 go_wp2
 go_region_held3 (fun w' => w'.cell? ⟨w.heap.size, 0, none⟩ = some (.int .i64 ax) ∧ w'.cell? ⟨w.heap.size, 1, none⟩ = some (.int .i64 ay) ∧ w'.cell? ⟨w.heap.size + 1, 0, none⟩ = some (.int .i64 bx) ∧ w'.cell? ⟨w.heap.size + 1, 1, none⟩ = some (.int .i64 b_y))
  (refine ⟨?_, ?_, ?_, ?_⟩ <;> simp [go_sem, hR _ (by assumption)])
  (first | (go_at_call 122; refine (cF _).mono ?_; rintro e' w' ⟨t, rfl, rfl⟩))
 all_goals
  obtain ⟨s, Hs⟩ : ∃ s, Hid (s = IntKind.i64.wrap (ay + t)) := ⟨_, (rfl : IntKind.i64.wrap (ay + t) = _)⟩
  rw [← Hs.out]
  have Y2 := ((X2.set 0 (.int .i64 e) (by simp)).set 1 (.int .i64 s) (by simp)).bel (Bel.drew (Bel.refl _))
  have hBe : Bel w ((W.setCell ⟨w.heap.size + 1 + 1, 0, none⟩ (.int .i64 e)).setCell ⟨w.heap.size + 1 + 1, 1, none⟩ (.int .i64 s)).drew := Bel.drew (bel_set (bel_set hBW (by show w.heap.size ≤ w.heap.size + 1 + 1; omega) _) (by show w.heap.size ≤ w.heap.size + 1 + 1; omega) _)
  have y0 := Y2.cell 0 (by simp)
  have y1 := Y2.cell 1 (by simp)
  have HY : Hid _ := And.intro y0 y1
  clear y0 y1
  go_wp2
  obtain ⟨y0, y1⟩ := HY.out
  simp only [List.set_cons_zero, List.set_cons_succ, List.getElem_cons_zero, List.getElem_cons_succ] at y0 y1
  exact bodyPost_ret (v := pt e s) (by simp [results, Try.results116, go_sem, y0, y1]) rfl ⟨_, _, rfl, hBe⟩

set_option maxRecDepth 100000 in
set_option maxHeartbeats 2000000 in
theorem l6Meet_levelw (ax ay bx b_y e : Int) (w : World) (ia : In64 ax) (ib : In64 bx) (hne : ax ≠ bx) :
  Calls Try.prog 116 #[pt ax ay, pt bx b_y, .int .i64 e, .bool false] w fun r w' => ∃ x y : Int, r = .returned (pt x y) ∧ Bel w w' := by
 by_cases hsw : bx < ax
 rotate_left
 ·exact l6Meet_upw ax ay bx b_y e w (wrap_off ia ib hne) hsw
 have cM := fun w' => l6Meet_upw bx b_y ax ay e w' (wrap_off ib ia (Ne.symm hne)) (by omega)
 obtain ⟨W, HW⟩ : ∃ W, Hid (W = ((w.alloc (.cells #[.int .i64 ax, .int .i64 ay] 31)).alloc (.cells #[.int .i64 bx, .int .i64 b_y] 31)).alloc (.cells #[.int .i64 0, .int .i64 0] 31)) := ⟨_, (rfl : ((w.alloc (.cells #[.int .i64 ax, .int .i64 ay] 31)).alloc (.cells #[.int .i64 bx, .int .i64 b_y] 31)).alloc (.cells #[.int .i64 0, .int .i64 0] 31) = _)⟩
 have hBW : Bel w W := by rw [HW.out]; exact bel_alloc (bel_alloc (bel_alloc (Bel.refl _) _) _) _
 have X0 : Blk W w.heap.size [.int .i64 ax, .int .i64 ay] := by rw [HW.out]; exact (Blk.new w [.int .i64 ax, .int .i64 ay] _).bel (bel_alloc (bel_alloc (Bel.refl _) _) _)
 have X1 : Blk W (w.heap.size + 1) [.int .i64 bx, .int .i64 b_y] := by rw [HW.out]; exact (Blk.new1 w _ [.int .i64 bx, .int .i64 b_y] _).bel (bel_alloc (Bel.refl _) _)
 have X2 : Blk W (w.heap.size + 1 + 1) [.int .i64 0, .int .i64 0] := by rw [HW.out]; exact Blk.new2 w _ _ [.int .i64 0, .int .i64 0] _
 have a0 := X0.cell 0 (by simp)
 have a1 := X0.cell 1 (by simp)
 have b0 := X1.cell 0 (by simp)
 have b1 := X1.cell 1 (by simp)
 simp only [List.getElem_cons_zero, List.getElem_cons_succ] at a0 a1 b0 b1
 clear ia ib hne
 go_enter Try.func116, Try.ntmps116
 go_upto_region 4 with fail
 rw [← HW.out]
 go_wp2_with fail
 refine (cM _).mono ?_
 rintro r w1 ⟨x, y, rfl, g1⟩
 have Y2 := X2.bel g1
 have z0 := Y2.cell 0 (by simp)
 have z1 := Y2.cell 1 (by simp)
 simp only [List.getElem_cons_zero, List.getElem_cons_succ] at z0 z1
 have f0 := Y2.free 0
 have f1 := Y2.free 1
 have hB1 := bel_step hBW g1
 go_wp2
 exact bodyPost_ret (v := pt x y) (by simp [results, Try.results116, go_sem, z0, z1]) rfl ⟨_, _, rfl, bel_set (bel_set hB1 (by show w.heap.size ≤ w.heap.size + 1 + 1; omega) _) (by show w.heap.size ≤ w.heap.size + 1 + 1; omega) _⟩

set_option maxRecDepth 100000 in
set_option maxHeartbeats 2000000 in
theorem l6Meet_acrossw (ax ay bx b_y e : Int) (w : World) (ia : In64 ay) (ib : In64 b_y) (hne : ay ≠ b_y) :
  Calls Try.prog 116 #[pt ax ay, pt bx b_y, .int .i64 e, .bool true] w fun r w' => ∃ x y : Int, r = .returned (pt x y) ∧ Bel w w' := by
 have cM := fun w' => l6Meet_levelw ay ax b_y bx e w' ia ib hne
 obtain ⟨W, HW⟩ : ∃ W, Hid (W = ((w.alloc (.cells #[.int .i64 ax, .int .i64 ay] 31)).alloc (.cells #[.int .i64 bx, .int .i64 b_y] 31)).alloc (.cells #[.int .i64 0, .int .i64 0] 31)) := ⟨_, (rfl : ((w.alloc (.cells #[.int .i64 ax, .int .i64 ay] 31)).alloc (.cells #[.int .i64 bx, .int .i64 b_y] 31)).alloc (.cells #[.int .i64 0, .int .i64 0] 31) = _)⟩
 have hBW : Bel w W := by rw [HW.out]; exact bel_alloc (bel_alloc (bel_alloc (Bel.refl _) _) _) _
 have X0 : Blk W w.heap.size [.int .i64 ax, .int .i64 ay] := by rw [HW.out]; exact (Blk.new w [.int .i64 ax, .int .i64 ay] _).bel (bel_alloc (bel_alloc (Bel.refl _) _) _)
 have X1 : Blk W (w.heap.size + 1) [.int .i64 bx, .int .i64 b_y] := by rw [HW.out]; exact (Blk.new1 w _ [.int .i64 bx, .int .i64 b_y] _).bel (bel_alloc (Bel.refl _) _)
 have X2 : Blk W (w.heap.size + 1 + 1) [.int .i64 0, .int .i64 0] := by rw [HW.out]; exact Blk.new2 w _ _ [.int .i64 0, .int .i64 0] _
 have a0 := X0.cell 0 (by simp)
 have a1 := X0.cell 1 (by simp)
 have b0 := X1.cell 0 (by simp)
 have b1 := X1.cell 1 (by simp)
 simp only [List.getElem_cons_zero, List.getElem_cons_succ] at a0 a1 b0 b1
 clear ia ib hne
 go_enter Try.func116, Try.ntmps116
 go_upto_region 2 with fail
 rw [← HW.out]
 go_wp2_with fail
 refine (cM _).mono ?_
 rintro r w1 ⟨x, y, rfl, g1⟩
 obtain ⟨V, HV⟩ : ∃ V, Hid (V = w1.alloc (.cells #[.int .i64 x, .int .i64 y] 31)) := ⟨_, (rfl : w1.alloc (.cells #[.int .i64 x, .int .i64 y] 31) = _)⟩
 have hbV : Bel w1 V := by rw [HV.out]; exact bel_alloc (Bel.refl _) _
 have XV : Blk V w1.heap.size [.int .i64 x, .int .i64 y] := by rw [HV.out]; exact Blk.new w1 [.int .i64 x, .int .i64 y] _
 have Y2 := (X2.bel g1).bel hbV
 have hB1 := bel_step (bel_step hBW g1) hbV
 go_upto_region 3 with fail
 rw [← HV.out]
 have v0 := XV.cell 0 (by simp)
 have v1 := XV.cell 1 (by simp)
 have z0 := Y2.cell 0 (by simp)
 have z1 := Y2.cell 1 (by simp)
 simp only [List.getElem_cons_zero, List.getElem_cons_succ] at z0 z1 v0 v1
 have f0 := Y2.free 0
 have f1 := Y2.free 1
 go_wp2
 exact bodyPost_ret (v := pt y x) (by simp [results, Try.results116, go_sem, z0, z1]) rfl ⟨_, _, rfl, bel_set (bel_set hB1 (by show w.heap.size ≤ w.heap.size + 1 + 1; omega) _) (by show w.heap.size ≤ w.heap.size + 1 + 1; omega) _⟩

set_option maxRecDepth 100000 in
set_option maxHeartbeats 2000000 in
theorem l6End_levelw (px py ax ay bx b_y e : Int) (w : World) (ia : In64 ax) (ib : In64 bx) :
  Calls Try.prog 106 #[pt px py, pt ax ay, pt bx b_y, .int .i64 e, .bool false] w fun r w' => ∃ x y : Int, r = .returned (pt x y) ∧ Bel w w' := by
 obtain ⟨b, Hb⟩ : ∃ b, b = decide (min ax bx ≤ e ∧ e ≤ max ax bx) := ⟨_, rfl⟩
 have cB := fun w' => between_is e ax bx b w' Hb
 have cA := fun w' => l6Along_any ax ay false w'
 have cC := fun w' => l6Along_any bx b_y false w'
 simp only [if_false, Bool.false_eq_true] at cA cC
 obtain ⟨W, HW⟩ : ∃ W, Hid (W = (((w.alloc (.cells #[.int .i64 px, .int .i64 py] 31)).alloc (.cells #[.int .i64 ax, .int .i64 ay] 31)).alloc (.cells #[.int .i64 bx, .int .i64 b_y] 31)).alloc (.cells #[.int .i64 0, .int .i64 0] 31)) := ⟨_, (rfl : (((w.alloc (.cells #[.int .i64 px, .int .i64 py] 31)).alloc (.cells #[.int .i64 ax, .int .i64 ay] 31)).alloc (.cells #[.int .i64 bx, .int .i64 b_y] 31)).alloc (.cells #[.int .i64 0, .int .i64 0] 31) = _)⟩
 have hBW : Bel w W := by rw [HW.out]; exact bel_alloc (bel_alloc (bel_alloc (bel_alloc (Bel.refl _) _) _) _) _
 have X0 : Blk W w.heap.size [.int .i64 px, .int .i64 py] := by rw [HW.out]; exact (Blk.new w [.int .i64 px, .int .i64 py] _).bel (bel_alloc (bel_alloc (bel_alloc (Bel.refl _) _) _) _)
 have X1 : Blk W (w.heap.size + 1) [.int .i64 ax, .int .i64 ay] := by rw [HW.out]; exact (Blk.new1 w _ [.int .i64 ax, .int .i64 ay] _).bel (bel_alloc (bel_alloc (Bel.refl _) _) _)
 have X2 : Blk W (w.heap.size + 1 + 1) [.int .i64 bx, .int .i64 b_y] := by rw [HW.out]; exact (Blk.new2 w _ _ [.int .i64 bx, .int .i64 b_y] _).bel (bel_alloc (Bel.refl _) _)
 have X3 : Blk W (w.heap.size + 1 + 1 + 1) [.int .i64 0, .int .i64 0] := by
  rw [HW.out]
  have := Blk.new2 (w.alloc (.cells #[.int .i64 px, .int .i64 py] 31)) (.cells #[.int .i64 ax, .int .i64 ay] 31) (.cells #[.int .i64 bx, .int .i64 b_y] 31) [.int .i64 0, .int .i64 0] 31
  rw [World.size_alloc] at this
  exact this
 have a0 := X1.cell 0 (by simp)
 have a1 := X1.cell 1 (by simp)
 have b0 := X2.cell 0 (by simp)
 have b1 := X2.cell 1 (by simp)
 simp only [List.getElem_cons_zero, List.getElem_cons_succ] at a0 a1 b0 b1
 go_enter Try.func106, Try.ntmps106
 go_upto_region 1 with fail
 rw [← HW.out]
 go_wp2_with fail
 refine (cA _).mono ?_
 rintro r w1 ⟨rfl, g1⟩
 have Y1 := X1.bel g1
 have Y2 := X2.bel g1
 have c0 := Y1.cell 0 (by simp)
 have c1 := Y1.cell 1 (by simp)
 have d0 := Y2.cell 0 (by simp)
 have d1 := Y2.cell 1 (by simp)
 simp only [List.getElem_cons_zero, List.getElem_cons_succ] at c0 c1 d0 d1
 clear a0 a1 b0 b1
 go_wp2_with fail
 refine (cC _).mono ?_
 rintro r w2 ⟨rfl, g2⟩
 have V1 := Y1.bel g2
 have V2 := Y2.bel g2
 have g12 := bel_step g1 g2
 have V0 := X0.bel g12
 have V3 := X3.bel g12
 clear c0 c1 d0 d1
 have c0 := V1.cell 0 (by simp)
 have c1 := V1.cell 1 (by simp)
 have d0 := V2.cell 0 (by simp)
 have d1 := V2.cell 1 (by simp)
 have p0 := V0.cell 0 (by simp)
 have p1 := V0.cell 1 (by simp)
 have z0 := V3.cell 0 (by simp)
 have z1 := V3.cell 1 (by simp)
 simp only [List.getElem_cons_zero, List.getElem_cons_succ] at c0 c1 d0 d1 p0 p1 z0 z1
 have f0 := V3.free 0
 have f1 := V3.free 1
 have h0 := V0.free 0
 have h1 := V0.free 1
 have hB2 := bel_step hBW g12
 by_cases hne : ax = bx
 ·have hne' : (ax == bx) = true := by simp; exact hne
  go_wp2
  exact bodyPost_ret (v := pt e py) (by simp [results, Try.results106, go_sem, z0, z1]) rfl ⟨_, _, rfl, bel_set (bel_set (bel_set hB2 (Nat.le_refl _) _) (by show w.heap.size ≤ w.heap.size + 1 + 1 + 1; omega) _) (by show w.heap.size ≤ w.heap.size + 1 + 1 + 1; omega) _⟩
 have hne' : (ax == bx) = false := by simp; exact hne
 have cM := fun w' => l6Meet_levelw ax ay bx b_y e w' ia ib hne
 clear ia ib
 go_wp2_with fail
 refine (cB _).mono ?_
 rintro r w3 ⟨rfl, rfl⟩
 clear Hb cB
 cases b
 ·go_wp2
  exact bodyPost_ret (v := pt e py) (by simp [results, Try.results106, go_sem, z0, z1]) rfl ⟨_, _, rfl, bel_set (bel_set (bel_set hB2 (Nat.le_refl _) _) (by show w.heap.size ≤ w.heap.size + 1 + 1 + 1; omega) _) (by show w.heap.size ≤ w.heap.size + 1 + 1 + 1; omega) _⟩
 clear z0 z1 f0 f1
 go_wp2_with fail
 refine (cM _).mono ?_
 rintro r w4 ⟨x, y, rfl, g4⟩
 have U3 := V3.bel g4
 have z0 := U3.cell 0 (by simp)
 have z1 := U3.cell 1 (by simp)
 simp only [List.getElem_cons_zero, List.getElem_cons_succ] at z0 z1
 have f0 := U3.free 0
 have f1 := U3.free 1
 have hB4 := bel_step hB2 g4
 go_wp2
 exact bodyPost_ret (v := pt x y) (by simp [results, Try.results106, go_sem, z0, z1]) rfl ⟨_, _, rfl, bel_set (bel_set hB4 (by show w.heap.size ≤ w.heap.size + 1 + 1 + 1; omega) _) (by show w.heap.size ≤ w.heap.size + 1 + 1 + 1; omega) _⟩

set_option maxRecDepth 100000 in
set_option maxHeartbeats 2000000 in
theorem l6End_acrossw (px py ax ay bx b_y e : Int) (w : World) (ia : In64 ay) (ib : In64 b_y) :
  Calls Try.prog 106 #[pt px py, pt ax ay, pt bx b_y, .int .i64 e, .bool true] w fun r w' => ∃ x y : Int, r = .returned (pt x y) ∧ Bel w w' := by
 obtain ⟨b, Hb⟩ : ∃ b, b = decide (min ay b_y ≤ e ∧ e ≤ max ay b_y) := ⟨_, rfl⟩
 have cB := fun w' => between_is e ay b_y b w' Hb
 have cA := fun w' => l6Along_any ax ay true w'
 have cC := fun w' => l6Along_any bx b_y true w'
 simp only [if_true] at cA cC
 obtain ⟨W, HW⟩ : ∃ W, Hid (W = (((w.alloc (.cells #[.int .i64 px, .int .i64 py] 31)).alloc (.cells #[.int .i64 ax, .int .i64 ay] 31)).alloc (.cells #[.int .i64 bx, .int .i64 b_y] 31)).alloc (.cells #[.int .i64 0, .int .i64 0] 31)) := ⟨_, (rfl : (((w.alloc (.cells #[.int .i64 px, .int .i64 py] 31)).alloc (.cells #[.int .i64 ax, .int .i64 ay] 31)).alloc (.cells #[.int .i64 bx, .int .i64 b_y] 31)).alloc (.cells #[.int .i64 0, .int .i64 0] 31) = _)⟩
 have hBW : Bel w W := by rw [HW.out]; exact bel_alloc (bel_alloc (bel_alloc (bel_alloc (Bel.refl _) _) _) _) _
 have X0 : Blk W w.heap.size [.int .i64 px, .int .i64 py] := by rw [HW.out]; exact (Blk.new w [.int .i64 px, .int .i64 py] _).bel (bel_alloc (bel_alloc (bel_alloc (Bel.refl _) _) _) _)
 have X1 : Blk W (w.heap.size + 1) [.int .i64 ax, .int .i64 ay] := by rw [HW.out]; exact (Blk.new1 w _ [.int .i64 ax, .int .i64 ay] _).bel (bel_alloc (bel_alloc (Bel.refl _) _) _)
 have X2 : Blk W (w.heap.size + 1 + 1) [.int .i64 bx, .int .i64 b_y] := by rw [HW.out]; exact (Blk.new2 w _ _ [.int .i64 bx, .int .i64 b_y] _).bel (bel_alloc (Bel.refl _) _)
 have X3 : Blk W (w.heap.size + 1 + 1 + 1) [.int .i64 0, .int .i64 0] := by
  rw [HW.out]
  have := Blk.new2 (w.alloc (.cells #[.int .i64 px, .int .i64 py] 31)) (.cells #[.int .i64 ax, .int .i64 ay] 31) (.cells #[.int .i64 bx, .int .i64 b_y] 31) [.int .i64 0, .int .i64 0] 31
  rw [World.size_alloc] at this
  exact this
 have a0 := X1.cell 0 (by simp)
 have a1 := X1.cell 1 (by simp)
 have b0 := X2.cell 0 (by simp)
 have b1 := X2.cell 1 (by simp)
 simp only [List.getElem_cons_zero, List.getElem_cons_succ] at a0 a1 b0 b1
 go_enter Try.func106, Try.ntmps106
 go_upto_region 1 with fail
 rw [← HW.out]
 go_wp2_with fail
 refine (cA _).mono ?_
 rintro r w1 ⟨rfl, g1⟩
 have Y1 := X1.bel g1
 have Y2 := X2.bel g1
 have c0 := Y1.cell 0 (by simp)
 have c1 := Y1.cell 1 (by simp)
 have d0 := Y2.cell 0 (by simp)
 have d1 := Y2.cell 1 (by simp)
 simp only [List.getElem_cons_zero, List.getElem_cons_succ] at c0 c1 d0 d1
 clear a0 a1 b0 b1
 go_wp2_with fail
 refine (cC _).mono ?_
 rintro r w2 ⟨rfl, g2⟩
 have V1 := Y1.bel g2
 have V2 := Y2.bel g2
 have g12 := bel_step g1 g2
 have V0 := X0.bel g12
 have V3 := X3.bel g12
 clear c0 c1 d0 d1
 have c0 := V1.cell 0 (by simp)
 have c1 := V1.cell 1 (by simp)
 have d0 := V2.cell 0 (by simp)
 have d1 := V2.cell 1 (by simp)
 have p0 := V0.cell 0 (by simp)
 have p1 := V0.cell 1 (by simp)
 have z0 := V3.cell 0 (by simp)
 have z1 := V3.cell 1 (by simp)
 simp only [List.getElem_cons_zero, List.getElem_cons_succ] at c0 c1 d0 d1 p0 p1 z0 z1
 have f0 := V3.free 0
 have f1 := V3.free 1
 have h0 := V0.free 0
 have h1 := V0.free 1
 have hB2 := bel_step hBW g12
 by_cases hne : ay = b_y
 ·have hne' : (ay == b_y) = true := by simp; exact hne
  go_wp2
  exact bodyPost_ret (v := pt px e) (by simp [results, Try.results106, go_sem, z0, z1]) rfl ⟨_, _, rfl, bel_set (bel_set (bel_set hB2 (Nat.le_refl _) _) (by show w.heap.size ≤ w.heap.size + 1 + 1 + 1; omega) _) (by show w.heap.size ≤ w.heap.size + 1 + 1 + 1; omega) _⟩
 have hne' : (ay == b_y) = false := by simp; exact hne
 have cM := fun w' => l6Meet_acrossw ax ay bx b_y e w' ia ib hne
 clear ia ib
 go_wp2_with fail
 refine (cB _).mono ?_
 rintro r w3 ⟨rfl, rfl⟩
 clear Hb cB
 cases b
 ·go_wp2
  exact bodyPost_ret (v := pt px e) (by simp [results, Try.results106, go_sem, z0, z1]) rfl ⟨_, _, rfl, bel_set (bel_set (bel_set hB2 (Nat.le_refl _) _) (by show w.heap.size ≤ w.heap.size + 1 + 1 + 1; omega) _) (by show w.heap.size ≤ w.heap.size + 1 + 1 + 1; omega) _⟩
 clear z0 z1 f0 f1
 go_wp2_with fail
 refine (cM _).mono ?_
 rintro r w4 ⟨x, y, rfl, g4⟩
 have U3 := V3.bel g4
 have z0 := U3.cell 0 (by simp)
 have z1 := U3.cell 1 (by simp)
 simp only [List.getElem_cons_zero, List.getElem_cons_succ] at z0 z1
 have f0 := U3.free 0
 have f1 := U3.free 1
 have hB4 := bel_step hB2 g4
 go_wp2
 exact bodyPost_ret (v := pt x y) (by simp [results, Try.results106, go_sem, z0, z1]) rfl ⟨_, _, rfl, bel_set (bel_set hB4 (by show w.heap.size ≤ w.heap.size + 1 + 1 + 1; omega) _) (by show w.heap.size ≤ w.heap.size + 1 + 1 + 1; omega) _⟩

end Go.Proofs.Ytkmccjjghpnejaa
