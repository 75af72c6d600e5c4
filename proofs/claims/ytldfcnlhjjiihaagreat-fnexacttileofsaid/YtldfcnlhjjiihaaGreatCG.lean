/-
  Clipping in the model: edges, crossings, bringing into a box. Contracts.
  Clipping in the model: on which side of an edge, where a stretch meets it. Contracts.
  Clipping in the model: an end that is beyond an edge. Contracts.
-/
import Derived.Test.YtldfcnlhjjiihaaGreatCB
import Derived.Deep.RegionHeld3
import Derived.Test.YtldfcnlhjjiihaaGreatCF
import Derived.Deep.DeepCutAuto
namespace Go.Proofs.YtldfcnlhjjiihaaGreat
open Go.RowKit

theorem l6Along_any (x y : Int) (ac : Bool) (w : World) :
  Calls Tryz.prog 115 #[pt x y, .bool ac] w fun r w' => r = .returned (.int .i64 (if ac then y else x)) ∧ Bel w w' := by
 cases ac <;> (
  go_enter Tryz.func115, Tryz.ntmps115
  go_wp2
  go_ret
  exact ⟨rfl, bel_alloc (Bel.refl _) _⟩)
theorem l6Clamp_any (x lo hi : Int) (w : World) (h : lo ≤ hi) :
  Calls Tryz.prog 81 #[.int .i64 x, .int .i64 lo, .int .i64 hi] w fun r w' => r = .returned (.int .i64 (clm x lo hi)) ∧ w' = w := by
 obtain ⟨t, Ht⟩ : ∃ t, Hid (clm x lo hi = t) := ⟨_, (rfl : clm x lo hi = _)⟩
 have HE : Hid (t = max lo (min x hi)) := Ht.out.symm
 rw [Ht.out]
 by_cases h1 : x < lo
 ·go_enter Tryz.func81, Tryz.ntmps81
  go_wp2
  go_ret
  exact ⟨ret_num (by rw [HE.out]; omega), rfl⟩
 ·by_cases h2 : hi < x
  ·go_enter Tryz.func81, Tryz.ntmps81
   go_wp2
   go_ret
   exact ⟨ret_num (by rw [HE.out]; omega), rfl⟩
  ·go_enter Tryz.func81, Tryz.ntmps81
   go_wp2
   go_ret
   exact ⟨ret_num (by rw [HE.out]; omega), rfl⟩
/-- A quotient rounded down, out of one that goes towards 0. -/
theorem tdiv_floor {n d : Int} (hd : 0 < d) : n / d = if n.tmod d < 0 then n.tdiv d - 1 else n.tdiv d := by
 have e1 := Int.mul_tdiv_add_tmod n d
 rcases Int.le_total 0 n with h | h
 ·have := Int.tmod_nonneg d h
  rw [if_neg (by omega), Int.tdiv_eq_ediv_of_nonneg h]
 ·have m1 : -d < n.tmod d := by
   have h1 := Int.tmod_lt_of_pos (-n) hd
   rw [Int.neg_tmod] at h1
   omega
  have m0 : n.tmod d ≤ 0 := by
   have := Int.tmod_nonneg d (show 0 ≤ -n by omega)
   rw [Int.neg_tmod] at this
   omega
  generalize n.tmod d = r at *
  generalize n.tdiv d = q at *
  split
  ·have e2 : n = (r + d) + d * (q - 1) := by rw [← e1]; rw [Int.mul_sub, Int.mul_one]; omega
   rw [e2, Int.add_mul_ediv_left _ _ (by omega), Int.ediv_eq_zero_of_lt (by omega) (by omega)]
   omega
  ·have e2 : n = 0 + d * q := by omega
   rw [e2, Int.add_mul_ediv_left _ _ (by omega)]
   simp
theorem l6Floor_any (n d : Int) (w : World) (hd : 0 < d) (hd2 : d ≤ 1000000000) (hn : -1000000000000000000 ≤ n) (hn2 : n ≤ 1000000000000000000) :
  Calls Tryz.prog 133 #[.int .i64 n, .int .i64 d] w fun r w' => r = .returned (.int .i64 (n / d)) ∧ w' = w := by
 have hf := tdiv_floor (n := n) hd
 have hb : -1000000000000000000 ≤ n / d ∧ n / d ≤ 1000000000000000000 := by
  constructor
  ·have a1 : -1000000000000000000 * d ≤ n := by
    have : -1000000000000000000 * d ≤ -1000000000000000000 * 1 := Int.mul_le_mul_of_nonpos_left (by decide) (by omega)
    omega
   exact (Int.le_ediv_iff_mul_le hd).2 a1
  ·have : n / d < 1000000000000000001 := Int.ediv_lt_of_lt_mul hd (by
    have : 1000000000000000001 * 1 ≤ 1000000000000000001 * d := Int.mul_le_mul_of_nonneg_left (by omega) (by decide)
    omega)
   omega
 obtain ⟨t, Ht⟩ : ∃ t, Hid (n / d = t) := ⟨_, (rfl : n / d = _)⟩
 rw [Ht.out] at hf hb
 rw [Ht.out]
 have hd0 : ¬ d = 0 := by omega
 generalize hr : n.tmod d = r at hf
 generalize hq : n.tdiv d = q at hf
 have Hf : Hid (t = if r < 0 then q - 1 else q) := hf
 by_cases h : r < 0
 ·rw [if_pos h] at hf
  have hq1 : q = t + 1 := by omega
  subst hq1
  clear hf
  go_enter Tryz.func133, Tryz.ntmps133
  go_wp2
  go_ret
  exact ⟨ret_num (by omega), rfl⟩
 ·rw [if_neg h] at hf
  subst hf
  go_enter Tryz.func133, Tryz.ntmps133
  go_wp2
  go_ret
  exact ⟨rfl, rfl⟩
end Go.Proofs.YtldfcnlhjjiihaaGreat

namespace Go.Proofs.YtldfcnlhjjiihaaGreat
open Go.RowKit

set_option maxRecDepth 100000 in
theorem l6On_any (x y e : Int) (ac le : Bool) (w : World) :
  Calls Tryz.prog 79 #[pt x y, .int .i64 e, .bool ac, .bool le] w fun r w' => r = .returned (.bool (if le then decide (e ≤ (if ac then y else x)) else decide ((if ac then y else x) ≤ e))) ∧ Bel w w' := by
 have cA := fun w' => l6Along_any x y ac w'
 obtain ⟨u, Hu⟩ : ∃ u, Hid ((if ac then y else x) = u) := ⟨_, (rfl : (if ac then y else x) = _)⟩
 rw [Hu.out] at cA ⊢
 have hA : Bel w (w.alloc (.cells #[.int .i64 x, .int .i64 y] 61)) := bel_alloc (Bel.refl _) _
 cases le <;> (
  go_enter Tryz.func79, Tryz.ntmps79
  go_wp2_with fail
  refine (cA _).mono ?_
  rintro e' w1 ⟨rfl, g1⟩
  go_wp2
  go_ret
  exact ⟨rfl, bel_step hA g1⟩)

set_option maxRecDepth 100000 in
set_option maxHeartbeats 2000000 in
theorem l6Meet_up (ax ay bx b_y e : Int) (w : World) (pa : POk ax ay) (pb : POk bx b_y) (hlt : ax < bx) (h0 : ax ≤ e) (h1 : e ≤ bx) :
  Calls Tryz.prog 117 #[pt ax ay, pt bx b_y, .int .i64 e, .bool false] w fun r w' => r = .returned (pt e (ay + (e - ax) * (b_y - ay) / (bx - ax))) ∧ Bel w w' := by
 obtain ⟨pa0, pa1, pa2, pa3⟩ := pa
 obtain ⟨pb0, pb1, pb2, pb3⟩ := pb
 have hd : 0 < bx - ax := by omega
 have hm : -400000000000000 ≤ (e - ax) * (b_y - ay) ∧ (e - ax) * (b_y - ay) ≤ 400000000000000 := mul_bd7 (by omega) (by omega) (by omega) (by omega)
 have cF := fun w' => l6Floor_any ((e - ax) * (b_y - ay)) (bx - ax) w' hd (by omega) (by omega) (by omega)
 have hin := mt_half (ax := ax) (ay := ay) (bx := bx) (b_y := b_y) (e := e) (by omega) (by omega) (by omega)
 obtain ⟨t, Ht⟩ : ∃ t, Hid ((e - ax) * (b_y - ay) / (bx - ax) = t) := ⟨_, (rfl : (e - ax) * (b_y - ay) / (bx - ax) = _)⟩
 rw [Ht.out] at cF hin ⊢
 obtain ⟨p, Hp⟩ : ∃ t, (e - ax) * (b_y - ay) = t := ⟨_, rfl⟩
 rw [Hp] at cF hm
 have hwr : IntKind.i64.wrap (ay + t) = ay + t := by rw [IntKind.wrap_i64]; omega
 have k1 : IntKind.i64.wrap (b_y - ay) = b_y - ay := by rw [IntKind.wrap_i64]; omega
 have k2 : IntKind.i64.wrap (e - ax) = e - ax := by rw [IntKind.wrap_i64]; omega
 have k3 : IntKind.i64.wrap (bx - ax) = bx - ax := by rw [IntKind.wrap_i64]; omega
 have k4 : IntKind.i64.wrap p = p := by rw [IntKind.wrap_i64]; omega
 have hns : ¬ bx < ax := by omega
 obtain ⟨W, HW⟩ : ∃ W, Hid (W = ((w.alloc (.cells #[.int .i64 ax, .int .i64 ay] 61)).alloc (.cells #[.int .i64 bx, .int .i64 b_y] 61)).alloc (.cells #[.int .i64 0, .int .i64 0] 61)) := ⟨_, (rfl : ((w.alloc (.cells #[.int .i64 ax, .int .i64 ay] 61)).alloc (.cells #[.int .i64 bx, .int .i64 b_y] 61)).alloc (.cells #[.int .i64 0, .int .i64 0] 61) = _)⟩
 have hBW : Bel w W := by rw [HW.out]; exact bel_alloc (bel_alloc (bel_alloc (Bel.refl _) _) _) _
 have X0 : Blk W w.heap.size [.int .i64 ax, .int .i64 ay] := by rw [HW.out]; exact (Blk.new w [.int .i64 ax, .int .i64 ay] _).bel (bel_alloc (bel_alloc (Bel.refl _) _) _)
 have X1 : Blk W (w.heap.size + 1) [.int .i64 bx, .int .i64 b_y] := by rw [HW.out]; exact (Blk.new1 w _ [.int .i64 bx, .int .i64 b_y] _).bel (bel_alloc (Bel.refl _) _)
 have X2 : Blk W (w.heap.size + 1 + 1) [.int .i64 0, .int .i64 0] := by rw [HW.out]; exact Blk.new2 w _ _ [.int .i64 0, .int .i64 0] _
 have hR : ∀ v, Bel W v → v.cell? ⟨w.heap.size, 0, none⟩ = some (.int .i64 ax) ∧ v.cell? ⟨w.heap.size, 1, none⟩ = some (.int .i64 ay) ∧ v.cell? ⟨w.heap.size + 1, 0, none⟩ = some (.int .i64 bx) ∧ v.cell? ⟨w.heap.size + 1, 1, none⟩ = some (.int .i64 b_y) ∧ v.cell? ⟨w.heap.size + 1 + 1, 0, none⟩ = some (.int .i64 0) ∧ v.cell? ⟨w.heap.size + 1 + 1, 1, none⟩ = some (.int .i64 0) ∧ v.frozen? ⟨w.heap.size + 1 + 1, 0, none⟩ = false ∧ v.frozen? ⟨w.heap.size + 1 + 1, 1, none⟩ = false :=
  fun v h => ⟨(X0.bel h).cell 0 (by simp), (X0.bel h).cell 1 (by simp), (X1.bel h).cell 0 (by simp), (X1.bel h).cell 1 (by simp), (X2.bel h).cell 0 (by simp), (X2.bel h).cell 1 (by simp), (X2.bel h).free 0, (X2.bel h).free 1⟩
 have hR0 := hR W (Bel.refl _)
 have g0 : Bel W W := Bel.refl _
 clear hin hm
 go_enter Tryz.func117, Tryz.ntmps117
 go_upto_region 4 with fail
 rw [← HW.out]
 go_wp2
 go_region_held3 (fun w' => w'.cell? ⟨w.heap.size, 0, none⟩ = some (.int .i64 ax) ∧ w'.cell? ⟨w.heap.size, 1, none⟩ = some (.int .i64 ay) ∧ w'.cell? ⟨w.heap.size + 1, 0, none⟩ = some (.int .i64 bx) ∧ w'.cell? ⟨w.heap.size + 1, 1, none⟩ = some (.int .i64 b_y))
  (refine ⟨?_, ?_, ?_, ?_⟩ <;> simp [go_sem, hR _ (by assumption)])
  (first | (go_at_call 133; refine (cF _).mono ?_; rintro e' w' ⟨rfl, rfl⟩))
 all_goals
  have Y2 := ((X2.set 0 (.int .i64 e) (by simp)).set 1 (.int .i64 (ay + t)) (by simp)).bel (Bel.drew (Bel.refl _))
  have hBe : Bel w ((W.setCell ⟨w.heap.size + 1 + 1, 0, none⟩ (.int .i64 e)).setCell ⟨w.heap.size + 1 + 1, 1, none⟩ (.int .i64 (ay + t))).drew := Bel.drew (bel_set (bel_set hBW (by show w.heap.size ≤ w.heap.size + 1 + 1; omega) _) (by show w.heap.size ≤ w.heap.size + 1 + 1; omega) _)
  have y0 := Y2.cell 0 (by simp)
  have y1 := Y2.cell 1 (by simp)
  have HY : Hid _ := And.intro y0 y1
  clear y0 y1
  go_wp2
  obtain ⟨y0, y1⟩ := HY.out
  simp only [List.set_cons_zero, List.set_cons_succ, List.getElem_cons_zero, List.getElem_cons_succ] at y0 y1
  exact bodyPost_ret (v := pt e (ay + t)) (by simp [results, Tryz.results117, go_sem, y0, y1]) rfl ⟨rfl, hBe⟩

set_option maxRecDepth 100000 in
set_option maxHeartbeats 2000000 in
theorem l6Meet_level (ax ay bx b_y e : Int) (w : World) (pa : POk ax ay) (pb : POk bx b_y) (hne : ax ≠ bx) (h0 : min ax bx ≤ e) (h1 : e ≤ max ax bx) :
  Calls Tryz.prog 117 #[pt ax ay, pt bx b_y, .int .i64 e, .bool false] w fun r w' => r = .returned (pt e (mtX ax ay bx b_y e)) ∧ Bel w w' := by
 by_cases hsw : bx < ax
 ·have cM := fun w' => l6Meet_up bx b_y ax ay e w' pb pa hsw (by omega) (by omega)
  have HM : Hid (mtX ax ay bx b_y e = b_y + (e - bx) * (ay - b_y) / (ax - bx)) := if_pos hsw
  obtain ⟨t, Ht⟩ : ∃ t, Hid (b_y + (e - bx) * (ay - b_y) / (ax - bx) = t) := ⟨_, (rfl : b_y + (e - bx) * (ay - b_y) / (ax - bx) = _)⟩
  rw [Ht.out] at cM HM
  rw [HM.out]
  obtain ⟨W, HW⟩ : ∃ W, Hid (W = ((w.alloc (.cells #[.int .i64 ax, .int .i64 ay] 61)).alloc (.cells #[.int .i64 bx, .int .i64 b_y] 61)).alloc (.cells #[.int .i64 0, .int .i64 0] 61)) := ⟨_, (rfl : ((w.alloc (.cells #[.int .i64 ax, .int .i64 ay] 61)).alloc (.cells #[.int .i64 bx, .int .i64 b_y] 61)).alloc (.cells #[.int .i64 0, .int .i64 0] 61) = _)⟩
  have hBW : Bel w W := by rw [HW.out]; exact bel_alloc (bel_alloc (bel_alloc (Bel.refl _) _) _) _
  have X0 : Blk W w.heap.size [.int .i64 ax, .int .i64 ay] := by rw [HW.out]; exact (Blk.new w [.int .i64 ax, .int .i64 ay] _).bel (bel_alloc (bel_alloc (Bel.refl _) _) _)
  have X1 : Blk W (w.heap.size + 1) [.int .i64 bx, .int .i64 b_y] := by rw [HW.out]; exact (Blk.new1 w _ [.int .i64 bx, .int .i64 b_y] _).bel (bel_alloc (Bel.refl _) _)
  have X2 : Blk W (w.heap.size + 1 + 1) [.int .i64 0, .int .i64 0] := by rw [HW.out]; exact Blk.new2 w _ _ [.int .i64 0, .int .i64 0] _
  have a0 := X0.cell 0 (by simp)
  have a1 := X0.cell 1 (by simp)
  have b0 := X1.cell 0 (by simp)
  have b1 := X1.cell 1 (by simp)
  simp only [List.getElem_cons_zero, List.getElem_cons_succ] at a0 a1 b0 b1
  clear pa pb h0 h1 HM
  go_enter Tryz.func117, Tryz.ntmps117
  go_upto_region 4 with fail
  rw [← HW.out]
  go_wp2_with fail
  refine (cM _).mono ?_
  rintro r w1 ⟨rfl, g1⟩
  have Y2 := X2.bel g1
  have z0 := Y2.cell 0 (by simp)
  have z1 := Y2.cell 1 (by simp)
  simp only [List.getElem_cons_zero, List.getElem_cons_succ] at z0 z1
  have f0 := Y2.free 0
  have f1 := Y2.free 1
  have hB1 := bel_step hBW g1
  go_wp2
  exact bodyPost_ret (v := pt e t) (by simp [results, Tryz.results117, go_sem, z0, z1]) rfl ⟨rfl, bel_set (bel_set hB1 (by show w.heap.size ≤ w.heap.size + 1 + 1; omega) _) (by show w.heap.size ≤ w.heap.size + 1 + 1; omega) _⟩
 ·have HM : mtX ax ay bx b_y e = ay + (e - ax) * (b_y - ay) / (bx - ax) := if_neg hsw
  rw [HM]
  exact l6Meet_up ax ay bx b_y e w pa pb (by omega) (by omega) (by omega)

set_option maxRecDepth 100000 in
set_option maxHeartbeats 2000000 in
theorem l6Meet_across (ax ay bx b_y e : Int) (w : World) (pa : POk ax ay) (pb : POk bx b_y) (hne : ay ≠ b_y) (h0 : min ay b_y ≤ e) (h1 : e ≤ max ay b_y) :
  Calls Tryz.prog 117 #[pt ax ay, pt bx b_y, .int .i64 e, .bool true] w fun r w' => r = .returned (pt (mtX ay ax b_y bx e) e) ∧ Bel w w' := by
 obtain ⟨pa0, pa1, pa2, pa3⟩ := pa
 obtain ⟨pb0, pb1, pb2, pb3⟩ := pb
 have cM := fun w' => l6Meet_level ay ax b_y bx e w' ⟨pa2, pa3, pa0, pa1⟩ ⟨pb2, pb3, pb0, pb1⟩ hne h0 h1
 obtain ⟨t, Ht⟩ : ∃ t, Hid (mtX ay ax b_y bx e = t) := ⟨_, (rfl : mtX ay ax b_y bx e = _)⟩
 rw [Ht.out] at cM ⊢
 obtain ⟨W, HW⟩ : ∃ W, Hid (W = ((w.alloc (.cells #[.int .i64 ax, .int .i64 ay] 61)).alloc (.cells #[.int .i64 bx, .int .i64 b_y] 61)).alloc (.cells #[.int .i64 0, .int .i64 0] 61)) := ⟨_, (rfl : ((w.alloc (.cells #[.int .i64 ax, .int .i64 ay] 61)).alloc (.cells #[.int .i64 bx, .int .i64 b_y] 61)).alloc (.cells #[.int .i64 0, .int .i64 0] 61) = _)⟩
 have hBW : Bel w W := by rw [HW.out]; exact bel_alloc (bel_alloc (bel_alloc (Bel.refl _) _) _) _
 have X0 : Blk W w.heap.size [.int .i64 ax, .int .i64 ay] := by rw [HW.out]; exact (Blk.new w [.int .i64 ax, .int .i64 ay] _).bel (bel_alloc (bel_alloc (Bel.refl _) _) _)
 have X1 : Blk W (w.heap.size + 1) [.int .i64 bx, .int .i64 b_y] := by rw [HW.out]; exact (Blk.new1 w _ [.int .i64 bx, .int .i64 b_y] _).bel (bel_alloc (Bel.refl _) _)
 have X2 : Blk W (w.heap.size + 1 + 1) [.int .i64 0, .int .i64 0] := by rw [HW.out]; exact Blk.new2 w _ _ [.int .i64 0, .int .i64 0] _
 have a0 := X0.cell 0 (by simp)
 have a1 := X0.cell 1 (by simp)
 have b0 := X1.cell 0 (by simp)
 have b1 := X1.cell 1 (by simp)
 simp only [List.getElem_cons_zero, List.getElem_cons_succ] at a0 a1 b0 b1
 clear pa0 pa1 pa2 pa3 pb0 pb1 pb2 pb3 h0 h1 hne
 go_enter Tryz.func117, Tryz.ntmps117
 go_upto_region 2 with fail
 rw [← HW.out]
 go_wp2_with fail
 refine (cM _).mono ?_
 rintro r w1 ⟨rfl, g1⟩
 obtain ⟨V, HV⟩ : ∃ V, Hid (V = w1.alloc (.cells #[.int .i64 e, .int .i64 t] 61)) := ⟨_, (rfl : w1.alloc (.cells #[.int .i64 e, .int .i64 t] 61) = _)⟩
 have hbV : Bel w1 V := by rw [HV.out]; exact bel_alloc (Bel.refl _) _
 have XV : Blk V w1.heap.size [.int .i64 e, .int .i64 t] := by rw [HV.out]; exact Blk.new w1 [.int .i64 e, .int .i64 t] _
 have Y2 := (X2.bel g1).bel hbV
 have hB1 := bel_step (bel_step hBW g1) hbV
 go_upto_region 3 with fail
 rw [← HV.out]
 have v0 := XV.cell 0 (by simp)
 have v1 := XV.cell 1 (by simp)
 have z0 := Y2.cell 0 (by simp)
 have z1 := Y2.cell 1 (by simp)
 simp only [List.getElem_cons_zero, List.getElem_cons_succ] at z0 z1 v0 v1
 have f0 := Y2.free 0
 have f1 := Y2.free 1
 go_wp2
 exact bodyPost_ret (v := pt t e) (by simp [results, Tryz.results117, go_sem, z0, z1]) rfl ⟨rfl, bel_set (bel_set hB1 (by show w.heap.size ≤ w.heap.size + 1 + 1; omega) _) (by show w.heap.size ≤ w.heap.size + 1 + 1; omega) _⟩
end Go.Proofs.YtldfcnlhjjiihaaGreat

namespace Go.Proofs.YtldfcnlhjjiihaaGreat
open Go.RowKit

theorem between_yes (x p q : Int) (w : World) (h0 : min p q ≤ x) (h1 : x ≤ max p q) :
  Calls Tryz.prog 116 #[.int .i64 x, .int .i64 p, .int .i64 q] w fun e w' => e = .returned (.bool true) ∧ w' = w := by
 go_enter Tryz.func116, Tryz.ntmps116
 go_wp2
 all_goals (go_ret; first | exact ⟨rfl, rfl⟩ | (exact ⟨ret_bl (by rw [Bool.eq_iff_iff]; simp; omega), rfl⟩))

set_option maxRecDepth 100000 in
set_option maxHeartbeats 2000000 in
theorem l6End_level (px py ax ay bx b_y e : Int) (w : World) (pa : POk ax ay) (pb : POk bx b_y) (hne : ax ≠ bx) (h0 : min ax bx ≤ e) (h1 : e ≤ max ax bx) :
  Calls Tryz.prog 80 #[pt px py, pt ax ay, pt bx b_y, .int .i64 e, .bool false] w fun r w' => r = .returned (pt e (mtX ax ay bx b_y e)) ∧ Bel w w' := by
 have cM := fun w' => l6Meet_level ax ay bx b_y e w' pa pb hne h0 h1
 have cB := fun w' => between_yes e ax bx w' h0 h1
 have cA := fun w' => l6Along_any ax ay false w'
 have cC := fun w' => l6Along_any bx b_y false w'
 simp only [if_false, Bool.false_eq_true] at cA cC
 obtain ⟨t, Ht⟩ : ∃ t, Hid (mtX ax ay bx b_y e = t) := ⟨_, (rfl : mtX ax ay bx b_y e = _)⟩
 rw [Ht.out] at cM ⊢
 obtain ⟨W, HW⟩ : ∃ W, Hid (W = (((w.alloc (.cells #[.int .i64 px, .int .i64 py] 61)).alloc (.cells #[.int .i64 ax, .int .i64 ay] 61)).alloc (.cells #[.int .i64 bx, .int .i64 b_y] 61)).alloc (.cells #[.int .i64 0, .int .i64 0] 61)) := ⟨_, (rfl : (((w.alloc (.cells #[.int .i64 px, .int .i64 py] 61)).alloc (.cells #[.int .i64 ax, .int .i64 ay] 61)).alloc (.cells #[.int .i64 bx, .int .i64 b_y] 61)).alloc (.cells #[.int .i64 0, .int .i64 0] 61) = _)⟩
 have hBW : Bel w W := by rw [HW.out]; exact bel_alloc (bel_alloc (bel_alloc (bel_alloc (Bel.refl _) _) _) _) _
 have X1 : Blk W (w.heap.size + 1) [.int .i64 ax, .int .i64 ay] := by rw [HW.out]; exact (Blk.new1 w _ [.int .i64 ax, .int .i64 ay] _).bel (bel_alloc (bel_alloc (Bel.refl _) _) _)
 have X2 : Blk W (w.heap.size + 1 + 1) [.int .i64 bx, .int .i64 b_y] := by rw [HW.out]; exact (Blk.new2 w _ _ [.int .i64 bx, .int .i64 b_y] _).bel (bel_alloc (Bel.refl _) _)
 have X3 : Blk W (w.heap.size + 1 + 1 + 1) [.int .i64 0, .int .i64 0] := by
  rw [HW.out]
  have := Blk.new2 (w.alloc (.cells #[.int .i64 px, .int .i64 py] 61)) (.cells #[.int .i64 ax, .int .i64 ay] 61) (.cells #[.int .i64 bx, .int .i64 b_y] 61) [.int .i64 0, .int .i64 0] 61
  rw [World.size_alloc] at this
  exact this
 have a0 := X1.cell 0 (by simp)
 have a1 := X1.cell 1 (by simp)
 have b0 := X2.cell 0 (by simp)
 have b1 := X2.cell 1 (by simp)
 simp only [List.getElem_cons_zero, List.getElem_cons_succ] at a0 a1 b0 b1
 have hne' : (ax == bx) = false := by simp; exact hne
 clear pa pb h0 h1
 go_enter Tryz.func80, Tryz.ntmps80
 go_upto_region 1 with fail
 rw [← HW.out]
 go_wp2_with fail
 refine (cA _).mono ?_
 rintro r w1 ⟨rfl, g1⟩
 have Y1 := X1.bel g1
 have Y2 := X2.bel g1
 have c0 := Y1.cell 0 (by simp)
 have c1 := Y1.cell 1 (by simp)
 have d0 := Y2.cell 0 (by simp)
 have d1 := Y2.cell 1 (by simp)
 simp only [List.getElem_cons_zero, List.getElem_cons_succ] at c0 c1 d0 d1
 clear a0 a1 b0 b1
 go_wp2_with fail
 refine (cC _).mono ?_
 rintro r w2 ⟨rfl, g2⟩
 have V1 := Y1.bel g2
 have V2 := Y2.bel g2
 have g12 := bel_step g1 g2
 have V3 := X3.bel g12
 clear c0 c1 d0 d1
 have c0 := V1.cell 0 (by simp)
 have c1 := V1.cell 1 (by simp)
 have d0 := V2.cell 0 (by simp)
 have d1 := V2.cell 1 (by simp)
 simp only [List.getElem_cons_zero, List.getElem_cons_succ] at c0 c1 d0 d1
 go_wp2_with fail
 refine (cB _).mono ?_
 rintro r w3 ⟨rfl, rfl⟩
 go_wp2_with fail
 refine (cM _).mono ?_
 rintro r w4 ⟨rfl, g4⟩
 have U3 := V3.bel g4
 have z0 := U3.cell 0 (by simp)
 have z1 := U3.cell 1 (by simp)
 simp only [List.getElem_cons_zero, List.getElem_cons_succ] at z0 z1
 have f0 := U3.free 0
 have f1 := U3.free 1
 have hB4 := bel_step (bel_step hBW g12) g4
 go_wp2
 exact bodyPost_ret (v := pt e t) (by simp [results, Tryz.results80, go_sem, z0, z1]) rfl ⟨rfl, bel_set (bel_set hB4 (by show w.heap.size ≤ w.heap.size + 1 + 1 + 1; omega) _) (by show w.heap.size ≤ w.heap.size + 1 + 1 + 1; omega) _⟩

set_option maxRecDepth 100000 in
set_option maxHeartbeats 2000000 in
theorem l6End_across (px py ax ay bx b_y e : Int) (w : World) (pa : POk ax ay) (pb : POk bx b_y) (hne : ay ≠ b_y) (h0 : min ay b_y ≤ e) (h1 : e ≤ max ay b_y) :
  Calls Tryz.prog 80 #[pt px py, pt ax ay, pt bx b_y, .int .i64 e, .bool true] w fun r w' => r = .returned (pt (mtX ay ax b_y bx e) e) ∧ Bel w w' := by
 have cM := fun w' => l6Meet_across ax ay bx b_y e w' pa pb hne h0 h1
 have cB := fun w' => between_yes e ay b_y w' h0 h1
 have cA := fun w' => l6Along_any ax ay true w'
 have cC := fun w' => l6Along_any bx b_y true w'
 simp only [if_true] at cA cC
 obtain ⟨t, Ht⟩ : ∃ t, Hid (mtX ay ax b_y bx e = t) := ⟨_, (rfl : mtX ay ax b_y bx e = _)⟩
 rw [Ht.out] at cM ⊢
 obtain ⟨W, HW⟩ : ∃ W, Hid (W = (((w.alloc (.cells #[.int .i64 px, .int .i64 py] 61)).alloc (.cells #[.int .i64 ax, .int .i64 ay] 61)).alloc (.cells #[.int .i64 bx, .int .i64 b_y] 61)).alloc (.cells #[.int .i64 0, .int .i64 0] 61)) := ⟨_, (rfl : (((w.alloc (.cells #[.int .i64 px, .int .i64 py] 61)).alloc (.cells #[.int .i64 ax, .int .i64 ay] 61)).alloc (.cells #[.int .i64 bx, .int .i64 b_y] 61)).alloc (.cells #[.int .i64 0, .int .i64 0] 61) = _)⟩
 have hBW : Bel w W := by rw [HW.out]; exact bel_alloc (bel_alloc (bel_alloc (bel_alloc (Bel.refl _) _) _) _) _
 have X1 : Blk W (w.heap.size + 1) [.int .i64 ax, .int .i64 ay] := by rw [HW.out]; exact (Blk.new1 w _ [.int .i64 ax, .int .i64 ay] _).bel (bel_alloc (bel_alloc (Bel.refl _) _) _)
 have X2 : Blk W (w.heap.size + 1 + 1) [.int .i64 bx, .int .i64 b_y] := by rw [HW.out]; exact (Blk.new2 w _ _ [.int .i64 bx, .int .i64 b_y] _).bel (bel_alloc (Bel.refl _) _)
 have X3 : Blk W (w.heap.size + 1 + 1 + 1) [.int .i64 0, .int .i64 0] := by
  rw [HW.out]
  have := Blk.new2 (w.alloc (.cells #[.int .i64 px, .int .i64 py] 61)) (.cells #[.int .i64 ax, .int .i64 ay] 61) (.cells #[.int .i64 bx, .int .i64 b_y] 61) [.int .i64 0, .int .i64 0] 61
  rw [World.size_alloc] at this
  exact this
 have a0 := X1.cell 0 (by simp)
 have a1 := X1.cell 1 (by simp)
 have b0 := X2.cell 0 (by simp)
 have b1 := X2.cell 1 (by simp)
 simp only [List.getElem_cons_zero, List.getElem_cons_succ] at a0 a1 b0 b1
 have hne' : (ay == b_y) = false := by simp; exact hne
 clear pa pb h0 h1
 go_enter Tryz.func80, Tryz.ntmps80
 go_upto_region 1 with fail
 rw [← HW.out]
 go_wp2_with fail
 refine (cA _).mono ?_
 rintro r w1 ⟨rfl, g1⟩
 have Y1 := X1.bel g1
 have Y2 := X2.bel g1
 have c0 := Y1.cell 0 (by simp)
 have c1 := Y1.cell 1 (by simp)
 have d0 := Y2.cell 0 (by simp)
 have d1 := Y2.cell 1 (by simp)
 simp only [List.getElem_cons_zero, List.getElem_cons_succ] at c0 c1 d0 d1
 clear a0 a1 b0 b1
 go_wp2_with fail
 refine (cC _).mono ?_
 rintro r w2 ⟨rfl, g2⟩
 have V1 := Y1.bel g2
 have V2 := Y2.bel g2
 have g12 := bel_step g1 g2
 have V3 := X3.bel g12
 clear c0 c1 d0 d1
 have c0 := V1.cell 0 (by simp)
 have c1 := V1.cell 1 (by simp)
 have d0 := V2.cell 0 (by simp)
 have d1 := V2.cell 1 (by simp)
 simp only [List.getElem_cons_zero, List.getElem_cons_succ] at c0 c1 d0 d1
 go_wp2_with fail
 refine (cB _).mono ?_
 rintro r w3 ⟨rfl, rfl⟩
 go_wp2_with fail
 refine (cM _).mono ?_
 rintro r w4 ⟨rfl, g4⟩
 have U3 := V3.bel g4
 have z0 := U3.cell 0 (by simp)
 have z1 := U3.cell 1 (by simp)
 simp only [List.getElem_cons_zero, List.getElem_cons_succ] at z0 z1
 have f0 := U3.free 0
 have f1 := U3.free 1
 have hB4 := bel_step (bel_step hBW g12) g4
 go_wp2
 exact bodyPost_ret (v := pt t e) (by simp [results, Tryz.results80, go_sem, z0, z1]) rfl ⟨rfl, bel_set (bel_set hB4 (by show w.heap.size ≤ w.heap.size + 1 + 1 + 1; omega) _) (by show w.heap.size ≤ w.heap.size + 1 + 1 + 1; omega) _⟩

end Go.Proofs.YtldfcnlhjjiihaaGreat
