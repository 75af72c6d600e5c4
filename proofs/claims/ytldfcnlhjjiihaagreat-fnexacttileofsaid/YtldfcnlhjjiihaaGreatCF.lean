/-
  Clipping in the program: edges, crossings, bringing into a box. Contracts.
  Clipping in the program: crossings with level edges. Contracts.
-/
import Derived.Test.YtldfcnlhjjiihaaGreatCB
import Derived.Test.YtldfcnlhjjiihaaGreatCE
import Derived.Deep.RegionHeld3
namespace Go.Proofs.YtldfcnlhjjiihaaGreat
open Go.RowKit

theorem liesWest_any (x y e : Int) (w : World) :
  Calls Tryz.prog 123 #[pt x y, .int .i64 e] w fun r w' => r = .returned (.bool (decide (x < e))) ∧ Bel w w' := by
 go_enter Tryz.func123, Tryz.ntmps123
 go_wp2
 go_ret
 exact ⟨rfl, bel_alloc (Bel.refl _) _⟩
theorem liesEast_any (x y e : Int) (w : World) :
  Calls Tryz.prog 125 #[pt x y, .int .i64 e] w fun r w' => r = .returned (.bool (decide (e < x))) ∧ Bel w w' := by
 go_enter Tryz.func125, Tryz.ntmps125
 go_wp2
 go_ret
 exact ⟨rfl, bel_alloc (Bel.refl _) _⟩
theorem liesSouth_any (x y e : Int) (w : World) :
  Calls Tryz.prog 126 #[pt x y, .int .i64 e] w fun r w' => r = .returned (.bool (decide (y < e))) ∧ Bel w w' := by
 go_enter Tryz.func126, Tryz.ntmps126
 go_wp2
 go_ret
 exact ⟨rfl, bel_alloc (Bel.refl _) _⟩
theorem liesNorth_any (x y e : Int) (w : World) :
  Calls Tryz.prog 128 #[pt x y, .int .i64 e] w fun r w' => r = .returned (.bool (decide (e < y))) ∧ Bel w w' := by
 go_enter Tryz.func128, Tryz.ntmps128
 go_wp2
 go_ret
 exact ⟨rfl, bel_alloc (Bel.refl _) _⟩
theorem mirrored_any (x y : Int) (w : World) :
  Calls Tryz.prog 136 #[pt x y] w fun r w' => r = .returned (pt y x) ∧ Bel w w' := by
 go_enter Tryz.func136, Tryz.ntmps136
 go_wp2
 exact bodyPost_ret (v := pt y x) (by simp [results, Tryz.results136, go_sem]) rfl ⟨rfl, bel_alloc (bel_alloc (Bel.refl _) _) _⟩
set_option maxHeartbeats 1000000 in
theorem broughtIn_any (q : BoxD) (x y : Int) (w : World) :
  Calls Tryz.prog 129 #[bxv q, pt x y] w fun r w' => r = .returned (pt (clm x q.a q.c) (clm y q.b q.d)) ∧ Bel w w' := by
 go_enter Tryz.func129, Tryz.ntmps129
 go_wp2
 exact bodyPost_ret (v := pt (clm x q.a q.c) (clm y q.b q.d)) (by simp [results, Tryz.results129, go_sem, clm]) rfl ⟨rfl, bel_alloc (bel_alloc (bel_alloc (Bel.refl _) _) _) _⟩

set_option maxRecDepth 100000 in
set_option maxHeartbeats 2000000 in
theorem crossUpright_any (ax ay bx b_y e : Int) (w : World) (pa : POk ax ay) (pb : POk bx b_y) (hne : ax ≠ bx) (h0 : min ax bx ≤ e) (h1 : e ≤ max ax bx) :
  Calls Tryz.prog 124 #[pt ax ay, pt bx b_y, .int .i64 e] w fun r w' => r = .returned (pt e (mtX ax ay bx b_y e)) ∧ Bel w w' := by
 obtain ⟨pa0, pa1, pa2, pa3⟩ := pa
 obtain ⟨pb0, pb1, pb2, pb3⟩ := pb
 by_cases hsw : bx < ax
 ·have hd : 0 < ax - bx := by omega
  have cS := fun w' => share_any (ay - b_y) (e - bx) (ax - bx) w' (by omega) (by omega) (by omega) (by omega) hd (by omega)
  have hin := mt_half (ax := bx) (ay := b_y) (bx := ax) (b_y := ay) (e := e) (by omega) (by omega) (by omega)
  have eS : shareOf (ay - b_y) (e - bx) (ax - bx) = (e - bx) * (ay - b_y) / (ax - bx) := by unfold shareOf; rw [Int.mul_comm]
  rw [eS] at cS
  have HM : Hid (mtX ax ay bx b_y e = b_y + (e - bx) * (ay - b_y) / (ax - bx)) := if_pos hsw
  obtain ⟨t, Ht⟩ : ∃ t, Hid ((e - bx) * (ay - b_y) / (ax - bx) = t) := ⟨_, (rfl : (e - bx) * (ay - b_y) / (ax - bx) = _)⟩
  rw [Ht.out] at cS hin HM
  have hwr : IntKind.i64.wrap (b_y + t) = b_y + t := by rw [IntKind.wrap_i64]; omega
  have k1 : IntKind.i64.wrap (ay - b_y) = ay - b_y := by rw [IntKind.wrap_i64]; omega
  have k2 : IntKind.i64.wrap (e - bx) = e - bx := by rw [IntKind.wrap_i64]; omega
  have k3 : IntKind.i64.wrap (ax - bx) = ax - bx := by rw [IntKind.wrap_i64]; omega
  obtain ⟨W, HW⟩ : ∃ W, Hid (W = ((w.alloc (.cells #[.int .i64 bx, .int .i64 b_y] 61)).alloc (.cells #[.int .i64 ax, .int .i64 ay] 61)).alloc (.cells #[.int .i64 0, .int .i64 0] 61)) := ⟨_, (rfl : ((w.alloc (.cells #[.int .i64 bx, .int .i64 b_y] 61)).alloc (.cells #[.int .i64 ax, .int .i64 ay] 61)).alloc (.cells #[.int .i64 0, .int .i64 0] 61) = _)⟩
  have hBW : Bel w W := by rw [HW.out]; exact bel_alloc (bel_alloc (bel_alloc (Bel.refl _) _) _) _
  have X0 : Blk W w.heap.size [.int .i64 bx, .int .i64 b_y] := by rw [HW.out]; exact (Blk.new w [.int .i64 bx, .int .i64 b_y] _).bel (bel_alloc (bel_alloc (Bel.refl _) _) _)
  have X1 : Blk W (w.heap.size + 1) [.int .i64 ax, .int .i64 ay] := by rw [HW.out]; exact (Blk.new1 w _ [.int .i64 ax, .int .i64 ay] _).bel (bel_alloc (Bel.refl _) _)
  have X2 : Blk W (w.heap.size + 1 + 1) [.int .i64 0, .int .i64 0] := by rw [HW.out]; exact Blk.new2 w _ _ [.int .i64 0, .int .i64 0] _
  have hR : ∀ v, Bel W v → v.cell? ⟨w.heap.size, 0, none⟩ = some (.int .i64 bx) ∧ v.cell? ⟨w.heap.size, 1, none⟩ = some (.int .i64 b_y) ∧ v.cell? ⟨w.heap.size + 1, 0, none⟩ = some (.int .i64 ax) ∧ v.cell? ⟨w.heap.size + 1, 1, none⟩ = some (.int .i64 ay) ∧ v.cell? ⟨w.heap.size + 1 + 1, 0, none⟩ = some (.int .i64 0) ∧ v.cell? ⟨w.heap.size + 1 + 1, 1, none⟩ = some (.int .i64 0) ∧ v.frozen? ⟨w.heap.size + 1 + 1, 0, none⟩ = false ∧ v.frozen? ⟨w.heap.size + 1 + 1, 1, none⟩ = false :=
   fun v h => ⟨(X0.bel h).cell 0 (by simp), (X0.bel h).cell 1 (by simp), (X1.bel h).cell 0 (by simp), (X1.bel h).cell 1 (by simp), (X2.bel h).cell 0 (by simp), (X2.bel h).cell 1 (by simp), (X2.bel h).free 0, (X2.bel h).free 1⟩
  have g0 : Bel W W := Bel.refl _
  clear hin
  go_enter Tryz.func124, Tryz.ntmps124
  go_wp2
  rw [← HW.out]
  go_region_held3 (fun w' => w'.cell? ⟨w.heap.size, 0, none⟩ = some (.int .i64 bx) ∧ w'.cell? ⟨w.heap.size, 1, none⟩ = some (.int .i64 b_y) ∧ w'.cell? ⟨w.heap.size + 1, 0, none⟩ = some (.int .i64 ax) ∧ w'.cell? ⟨w.heap.size + 1, 1, none⟩ = some (.int .i64 ay))
   (refine ⟨?_, ?_, ?_, ?_⟩ <;> simp [go_sem, hR _ (by assumption)])
   (first | (go_at_call 135; refine (cS _).mono ?_; rintro e' w' ⟨rfl, hbk0⟩; refine (fun hbk : Bel W w' => ?_) (bel_step (by first | exact g0 | exact Bel.drew g0) hbk0)))
  all_goals
   have Y2 := (X2.bel hbk).set 0 (.int .i64 e) (by simp) |>.set 1 (.int .i64 (b_y + t)) (by simp)
   have hBe : Bel w ((w'.setCell ⟨w.heap.size + 1 + 1, 0, none⟩ (.int .i64 e)).setCell ⟨w.heap.size + 1 + 1, 1, none⟩ (.int .i64 (b_y + t))) := bel_set (bel_set (bel_step hBW hbk) (by show w.heap.size ≤ w.heap.size + 1 + 1; omega) _) (by show w.heap.size ≤ w.heap.size + 1 + 1; omega) _
   have y0 := Y2.cell 0 (by simp)
   have y1 := Y2.cell 1 (by simp)
   have HY : Hid _ := And.intro y0 y1
   clear y0 y1
   go_wp2
   obtain ⟨y0, y1⟩ := HY.out
   simp only [List.set_cons_zero, List.set_cons_succ, List.getElem_cons_zero, List.getElem_cons_succ] at y0 y1
   exact bodyPost_ret (v := pt e (b_y + t)) (by simp [results, Tryz.results124, go_sem, y0, y1]) rfl ⟨by rw [HM.out], hBe⟩
 ·have hd : 0 < bx - ax := by omega
  have cS := fun w' => share_any (b_y - ay) (e - ax) (bx - ax) w' (by omega) (by omega) (by omega) (by omega) hd (by omega)
  have hin := mt_half (ax := ax) (ay := ay) (bx := bx) (b_y := b_y) (e := e) (by omega) (by omega) (by omega)
  have eS : shareOf (b_y - ay) (e - ax) (bx - ax) = (e - ax) * (b_y - ay) / (bx - ax) := by unfold shareOf; rw [Int.mul_comm]
  rw [eS] at cS
  have HM : Hid (mtX ax ay bx b_y e = ay + (e - ax) * (b_y - ay) / (bx - ax)) := if_neg hsw
  obtain ⟨t, Ht⟩ : ∃ t, Hid ((e - ax) * (b_y - ay) / (bx - ax) = t) := ⟨_, (rfl : (e - ax) * (b_y - ay) / (bx - ax) = _)⟩
  rw [Ht.out] at cS hin HM
  have hwr : IntKind.i64.wrap (ay + t) = ay + t := by rw [IntKind.wrap_i64]; omega
  have k1 : IntKind.i64.wrap (b_y - ay) = b_y - ay := by rw [IntKind.wrap_i64]; omega
  have k2 : IntKind.i64.wrap (e - ax) = e - ax := by rw [IntKind.wrap_i64]; omega
  have k3 : IntKind.i64.wrap (bx - ax) = bx - ax := by rw [IntKind.wrap_i64]; omega
  obtain ⟨W, HW⟩ : ∃ W, Hid (W = ((w.alloc (.cells #[.int .i64 ax, .int .i64 ay] 61)).alloc (.cells #[.int .i64 bx, .int .i64 b_y] 61)).alloc (.cells #[.int .i64 0, .int .i64 0] 61)) := ⟨_, (rfl : ((w.alloc (.cells #[.int .i64 ax, .int .i64 ay] 61)).alloc (.cells #[.int .i64 bx, .int .i64 b_y] 61)).alloc (.cells #[.int .i64 0, .int .i64 0] 61) = _)⟩
  have hBW : Bel w W := by rw [HW.out]; exact bel_alloc (bel_alloc (bel_alloc (Bel.refl _) _) _) _
  have X0 : Blk W w.heap.size [.int .i64 ax, .int .i64 ay] := by rw [HW.out]; exact (Blk.new w [.int .i64 ax, .int .i64 ay] _).bel (bel_alloc (bel_alloc (Bel.refl _) _) _)
  have X1 : Blk W (w.heap.size + 1) [.int .i64 bx, .int .i64 b_y] := by rw [HW.out]; exact (Blk.new1 w _ [.int .i64 bx, .int .i64 b_y] _).bel (bel_alloc (Bel.refl _) _)
  have X2 : Blk W (w.heap.size + 1 + 1) [.int .i64 0, .int .i64 0] := by rw [HW.out]; exact Blk.new2 w _ _ [.int .i64 0, .int .i64 0] _
  have hR : ∀ v, Bel W v → v.cell? ⟨w.heap.size, 0, none⟩ = some (.int .i64 ax) ∧ v.cell? ⟨w.heap.size, 1, none⟩ = some (.int .i64 ay) ∧ v.cell? ⟨w.heap.size + 1, 0, none⟩ = some (.int .i64 bx) ∧ v.cell? ⟨w.heap.size + 1, 1, none⟩ = some (.int .i64 b_y) ∧ v.cell? ⟨w.heap.size + 1 + 1, 0, none⟩ = some (.int .i64 0) ∧ v.cell? ⟨w.heap.size + 1 + 1, 1, none⟩ = some (.int .i64 0) ∧ v.frozen? ⟨w.heap.size + 1 + 1, 0, none⟩ = false ∧ v.frozen? ⟨w.heap.size + 1 + 1, 1, none⟩ = false :=
   fun v h => ⟨(X0.bel h).cell 0 (by simp), (X0.bel h).cell 1 (by simp), (X1.bel h).cell 0 (by simp), (X1.bel h).cell 1 (by simp), (X2.bel h).cell 0 (by simp), (X2.bel h).cell 1 (by simp), (X2.bel h).free 0, (X2.bel h).free 1⟩
  have g0 : Bel W W := Bel.refl _
  clear hin
  go_enter Tryz.func124, Tryz.ntmps124
  go_wp2
  rw [← HW.out]
  go_region_held3 (fun w' => w'.cell? ⟨w.heap.size, 0, none⟩ = some (.int .i64 ax) ∧ w'.cell? ⟨w.heap.size, 1, none⟩ = some (.int .i64 ay) ∧ w'.cell? ⟨w.heap.size + 1, 0, none⟩ = some (.int .i64 bx) ∧ w'.cell? ⟨w.heap.size + 1, 1, none⟩ = some (.int .i64 b_y))
   (refine ⟨?_, ?_, ?_, ?_⟩ <;> simp [go_sem, hR _ (by assumption)])
   (first | (go_at_call 135; refine (cS _).mono ?_; rintro e' w' ⟨rfl, hbk0⟩; refine (fun hbk : Bel W w' => ?_) (bel_step (by first | exact g0 | exact Bel.drew g0) hbk0)))
  all_goals
   have Y2 := (X2.bel hbk).set 0 (.int .i64 e) (by simp) |>.set 1 (.int .i64 (ay + t)) (by simp)
   have hBe : Bel w ((w'.setCell ⟨w.heap.size + 1 + 1, 0, none⟩ (.int .i64 e)).setCell ⟨w.heap.size + 1 + 1, 1, none⟩ (.int .i64 (ay + t))) := bel_set (bel_set (bel_step hBW hbk) (by show w.heap.size ≤ w.heap.size + 1 + 1; omega) _) (by show w.heap.size ≤ w.heap.size + 1 + 1; omega) _
   have y0 := Y2.cell 0 (by simp)
   have y1 := Y2.cell 1 (by simp)
   have HY : Hid _ := And.intro y0 y1
   clear y0 y1
   go_wp2
   obtain ⟨y0, y1⟩ := HY.out
   simp only [List.set_cons_zero, List.set_cons_succ, List.getElem_cons_zero, List.getElem_cons_succ] at y0 y1
   exact bodyPost_ret (v := pt e (ay + t)) (by simp [results, Tryz.results124, go_sem, y0, y1]) rfl ⟨by rw [HM.out], hBe⟩
end Go.Proofs.YtldfcnlhjjiihaaGreat

namespace Go.Proofs.YtldfcnlhjjiihaaGreat
open Go.RowKit

set_option maxRecDepth 100000 in
set_option maxHeartbeats 2000000 in
theorem crossLevel_any (ax ay bx b_y e : Int) (w : World) (pa : POk ax ay) (pb : POk bx b_y) (hne : ay ≠ b_y) (h0 : min ay b_y ≤ e) (h1 : e ≤ max ay b_y) :
  Calls Tryz.prog 127 #[pt ax ay, pt bx b_y, .int .i64 e] w fun r w' => r = .returned (pt (mtX ay ax b_y bx e) e) ∧ Bel w w' := by
 have cC := fun w' => crossUpright_any ay ax b_y bx e w' ⟨pa.y0, pa.y1, pa.x0, pa.x1⟩ ⟨pb.y0, pb.y1, pb.x0, pb.x1⟩ hne h0 h1
 obtain ⟨t, Ht⟩ : ∃ t, Hid (mtX ay ax b_y bx e = t) := ⟨_, (rfl : mtX ay ax b_y bx e = _)⟩
 rw [Ht.out] at cC
 rw [Ht.out]
 obtain ⟨W, HW⟩ : ∃ W, Hid (W = ((w.alloc (.cells #[.int .i64 ax, .int .i64 ay] 61)).alloc (.cells #[.int .i64 bx, .int .i64 b_y] 61)).alloc (.cells #[.int .i64 0, .int .i64 0] 61)) := ⟨_, (rfl : ((w.alloc (.cells #[.int .i64 ax, .int .i64 ay] 61)).alloc (.cells #[.int .i64 bx, .int .i64 b_y] 61)).alloc (.cells #[.int .i64 0, .int .i64 0] 61) = _)⟩
 have hBW : Bel w W := by rw [HW.out]; exact bel_alloc (bel_alloc (bel_alloc (Bel.refl _) _) _) _
 have X0 : Blk W w.heap.size [.int .i64 ax, .int .i64 ay] := by rw [HW.out]; exact (Blk.new w [.int .i64 ax, .int .i64 ay] _).bel (bel_alloc (bel_alloc (Bel.refl _) _) _)
 have X1 : Blk W (w.heap.size + 1) [.int .i64 bx, .int .i64 b_y] := by rw [HW.out]; exact (Blk.new1 w _ [.int .i64 bx, .int .i64 b_y] _).bel (bel_alloc (Bel.refl _) _)
 have X2 : Blk W (w.heap.size + 1 + 1) [.int .i64 0, .int .i64 0] := by rw [HW.out]; exact Blk.new2 w _ _ [.int .i64 0, .int .i64 0] _
 have hR : ∀ v, Bel W v → v.cell? ⟨w.heap.size, 0, none⟩ = some (.int .i64 ax) ∧ v.cell? ⟨w.heap.size, 1, none⟩ = some (.int .i64 ay) ∧ v.cell? ⟨w.heap.size + 1, 0, none⟩ = some (.int .i64 bx) ∧ v.cell? ⟨w.heap.size + 1, 1, none⟩ = some (.int .i64 b_y) ∧ v.cell? ⟨w.heap.size + 1 + 1, 0, none⟩ = some (.int .i64 0) ∧ v.cell? ⟨w.heap.size + 1 + 1, 1, none⟩ = some (.int .i64 0) ∧ v.frozen? ⟨w.heap.size + 1 + 1, 0, none⟩ = false ∧ v.frozen? ⟨w.heap.size + 1 + 1, 1, none⟩ = false :=
  fun v h => ⟨(X0.bel h).cell 0 (by simp), (X0.bel h).cell 1 (by simp), (X1.bel h).cell 0 (by simp), (X1.bel h).cell 1 (by simp), (X2.bel h).cell 0 (by simp), (X2.bel h).cell 1 (by simp), (X2.bel h).free 0, (X2.bel h).free 1⟩
 have g0 : Bel W W := Bel.refl _
 go_enter Tryz.func127, Tryz.ntmps127
 go_wp2
 rw [← HW.out]
 go_region_held3 (fun w' => w'.cell? ⟨w.heap.size, 0, none⟩ = some (.int .i64 ax) ∧ w'.cell? ⟨w.heap.size, 1, none⟩ = some (.int .i64 ay) ∧ w'.cell? ⟨w.heap.size + 1, 0, none⟩ = some (.int .i64 bx) ∧ w'.cell? ⟨w.heap.size + 1, 1, none⟩ = some (.int .i64 b_y))
  (refine ⟨?_, ?_, ?_, ?_⟩ <;> simp [go_sem, hR _ (by assumption)])
  (first
   | (go_at_call 136; refine (mirrored_any _ _ _).mono ?_; rintro e' w' ⟨rfl, hbk0⟩; refine (fun hbk : Bel W w' => ?_) (bel_step (by first | assumption | exact Bel.drew (by assumption)) hbk0))
   | (go_at_call 124; refine (cC _).mono ?_; rintro e' w' ⟨rfl, hbk0⟩; refine (fun hbk : Bel W w' => ?_) (bel_step (by first | assumption | exact Bel.drew (by assumption)) hbk0)))
 all_goals
  have Y2 := (X2.bel (by assumption : Bel W w')).set 0 (.int .i64 t) (by simp) |>.set 1 (.int .i64 e) (by simp)
  have hBe : Bel w ((w'.setCell ⟨w.heap.size + 1 + 1, 0, none⟩ (.int .i64 t)).setCell ⟨w.heap.size + 1 + 1, 1, none⟩ (.int .i64 e)) := bel_set (bel_set (bel_step hBW (by assumption)) (by show w.heap.size ≤ w.heap.size + 1 + 1; omega) _) (by show w.heap.size ≤ w.heap.size + 1 + 1; omega) _
  have y0 := Y2.cell 0 (by simp)
  have y1 := Y2.cell 1 (by simp)
  have HY : Hid _ := And.intro y0 y1
  clear y0 y1
  go_wp2
  obtain ⟨y0, y1⟩ := HY.out
  simp only [List.set_cons_zero, List.set_cons_succ, List.getElem_cons_zero, List.getElem_cons_succ] at y0 y1
  exact bodyPost_ret (v := pt t e) (by simp [results, Tryz.results127, go_sem, y0, y1]) rfl ⟨rfl, hBe⟩
end Go.Proofs.YtldfcnlhjjiihaaGreat
