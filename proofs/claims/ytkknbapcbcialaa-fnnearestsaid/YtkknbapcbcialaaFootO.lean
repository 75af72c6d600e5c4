/-
  The program's place on a stretch: its contract.
-/
import Derived.Test.YtkknbapcbcialaaNearM
namespace Go.Proofs.Ytkknbapcbcialaa
open Go.RowKit

set_option maxHeartbeats 2000000 in
theorem footOn_any (x0 y0 x1 y1 x2 y2 : Int) (w : World) (a : POk x0 y0) (b : POk x1 y1) (c : POk x2 y2) :
    Calls Try.prog 37 #[pt x0 y0, pt x1 y1, pt x2 y2] w fun e w' => e = .returned (ft 0 (dOf x0 y0 (footX x0 y0 x1 y1 x2 y2) (footY x0 y0 x1 y1 x2 y2)) (footX x0 y0 x1 y1 x2 y2) (footY x0 y0 x1 y1 x2 y2) (dOf x2 y2 (footX x0 y0 x1 y1 x2 y2) (footY x0 y0 x1 y1 x2 y2))) ∧ Bel w w' := by
  have q := foot_ok (x2 := x2) (y2 := y2) a b
  obtain ⟨hA, _, hC⟩ := bx3_at 29 w x0 y0 x1 y1 x2 y2
  have r1 : Bel (bx3 29 w x0 y0 x1 y1 x2 y2) ((bx3 29 w x0 y0 x1 y1 x2 y2).alloc (.cells #[.int .i64 0, .int .i64 0, .int .i64 0, .int .i64 0, .int .i64 0] 32)) := bel_alloc (Bel.refl _) _
  have hA := hA.bel r1
  have hC := hC.bel r1
  have hZ := (Five.new (bx3 29 w x0 y0 x1 y1 x2 y2) 0 0 0 0 0 32).room
  have hb := bel_step (bx3_bel 29 w x0 y0 x1 y1 x2 y2) r1
  clear r1
  go_enter Try.func37, Try.ntmps37
  go_wp2_with fail
  refine (nearestOn_any _ _ _ _ _ _ _ a b c).mono ?_
  rintro e w1 ⟨rfl, hb1⟩
  have hA := hA.bel hb1
  have hC := hC.bel hb1
  have hZ := hZ.bel hb1
  have hb := bel_step hb hb1
  rw [bx3_size] at hZ
  clear hb1
  generalize hfx : footX x0 y0 x1 y1 x2 y2 = fx at q ⊢
  generalize hfy : footY x0 y0 x1 y1 x2 y2 = fy at q ⊢
  have hQ := PtAt.new w1 fx fy 29
  have hal : Bel w1 (w1.alloc (.cells #[.int .i64 fx, .int .i64 fy] 29)) := bel_alloc (Bel.refl _) _
  have hA := hA.bel hal
  have hC := hC.bel hal
  have hlt := hZ.lt
  have g0 := But.start (bel_step hb hal) (by omega : w.heap.size ≤ w.heap.size + 1 + 1 + 1) (hZ.bel hal)
  generalize hW : w1.alloc (.cells #[.int .i64 fx, .int .i64 fy] 29) = W at *
  have hR : ∀ w', But w W (w.heap.size + 1 + 1 + 1) 5 w' → w'.cell? ⟨w.heap.size, 0, none⟩ = some (.int .i64 x0) ∧ w'.cell? ⟨w.heap.size, 1, none⟩ = some (.int .i64 y0) ∧ w'.cell? ⟨w.heap.size + 1 + 1, 0, none⟩ = some (.int .i64 x2) ∧ w'.cell? ⟨w.heap.size + 1 + 1, 1, none⟩ = some (.int .i64 y2) ∧ w'.cell? ⟨w1.heap.size, 0, none⟩ = some (.int .i64 fx) ∧ w'.cell? ⟨w1.heap.size, 1, none⟩ = some (.int .i64 fy) ∧ w'.frozen? ⟨w.heap.size + 1 + 1 + 1, 0, none⟩ = false ∧ w'.frozen? ⟨w.heap.size + 1 + 1 + 1, 1, none⟩ = false ∧ w'.frozen? ⟨w.heap.size + 1 + 1 + 1, 2, none⟩ = false ∧ w'.frozen? ⟨w.heap.size + 1 + 1 + 1, 3, none⟩ = false ∧ w'.frozen? ⟨w.heap.size + 1 + 1 + 1, 4, none⟩ = false :=
    fun w' h => ⟨(h.at hA (by omega)).c0, (h.at hA (by omega)).c1, (h.at hC (by omega)).c0, (h.at hC (by omega)).c1, (h.at hQ (by omega)).c0, (h.at hQ (by omega)).c1, h.room.fr 0, h.room.fr 1, h.room.fr 2, h.room.fr 3, h.room.fr 4⟩
  subst hW
  clear hA hC hQ hZ hb hal
  go_wp2
  go_region_held3 (fun w' => But w (w1.alloc (.cells #[.int .i64 fx, .int .i64 fy] 29)) (w.heap.size + 1 + 1 + 1) 5 w') (with_reducible (repeat (first | exact g0 | refine But.drew ?_ | refine But.set ?_ _ _ | assumption | refine But.bel (by assumption) (by assumption))))
    (first
      | (go_at_call 21; refine (dist_ok _ _ _ _ _ (by assumption) (by assumption)).mono ?_; rintro e w' ⟨rfl, hbk⟩; have hrm := (But.bel (w := w) (W := w1.alloc (.cells #[.int .i64 fx, .int .i64 fy] 29)) (B := w.heap.size + 1 + 1 + 1) (m := 5) (by assumption) hbk).room; obtain ⟨r0, hr0⟩ := hrm.there 0 (by decide); obtain ⟨r1, hr1⟩ := hrm.there 1 (by decide); obtain ⟨r2, hr2⟩ := hrm.there 2 (by decide); obtain ⟨r3, hr3⟩ := hrm.there 3 (by decide); obtain ⟨r4, hr4⟩ := hrm.there 4 (by decide); clear hrm))
  all_goals
    go_wp2
    exact bodyPost_ret (v := ft 0 (dOf x0 y0 fx fy) fx fy (dOf x2 y2 fx fy)) (by simp [results, Try.results37, go_sem, *]) rfl ⟨by subst hfx; subst hfy; rfl, (by assumption : But w (w1.alloc (.cells #[.int .i64 fx, .int .i64 fy] 29)) (w.heap.size + 1 + 1 + 1) 5 _).b⟩
end Go.Proofs.Ytkknbapcbcialaa
