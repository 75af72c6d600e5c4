/-
  Contracts of Turn and of what it is made of, in the program and in its model: for every three points.
-/
import Derived.Test.YtkinpfnelmdmlaaDoorDistC
namespace Go.Proofs.YtkinpfnelmdmlaaDoor
open Go.RowKit

/-- The world in which 2 points lie boxed. -/
def bx2 (t : TypeId) (w : World) (x0 y0 x1 y1 : Int) : World := (w.alloc (.cells #[.int .i64 x0, .int .i64 y0] t)).alloc (.cells #[.int .i64 x1, .int .i64 y1] t)
theorem bx2_cells (t : TypeId) (w : World) (x0 y0 x1 y1 : Int) (w' : World) (h : Bel (bx2 t w x0 y0 x1 y1) w') :
    w'.cell? ⟨w.heap.size, 0, none⟩ = some (.int .i64 x0) ∧ w'.cell? ⟨w.heap.size, 1, none⟩ = some (.int .i64 y0) ∧ w'.cell? ⟨w.heap.size + 1, 0, none⟩ = some (.int .i64 x1) ∧ w'.cell? ⟨w.heap.size + 1, 1, none⟩ = some (.int .i64 y1) := by
  have hs : (bx2 t w x0 y0 x1 y1).heap.size = w.heap.size + 2 := by simp [bx2]
  refine ⟨?_, ?_, ?_, ?_⟩
  · rw [h.out.cell (by rw [hs]; show w.heap.size < _; omega)]; simp [bx2, go_sem]
  · rw [h.out.cell (by rw [hs]; show w.heap.size < _; omega)]; simp [bx2, go_sem]
  · rw [h.out.cell (by rw [hs]; show w.heap.size + 1 < _; omega)]; simp [bx2, go_sem]
  · rw [h.out.cell (by rw [hs]; show w.heap.size + 1 < _; omega)]; simp [bx2, go_sem]
theorem bx2_bel (t : TypeId) (w : World) (x0 y0 x1 y1 : Int) : Bel w (bx2 t w x0 y0 x1 y1) := bel_alloc (bel_alloc (Bel.refl _) _) _

/-- The world in which 3 points lie boxed. -/
def bx3 (t : TypeId) (w : World) (x0 y0 x1 y1 x2 y2 : Int) : World := ((w.alloc (.cells #[.int .i64 x0, .int .i64 y0] t)).alloc (.cells #[.int .i64 x1, .int .i64 y1] t)).alloc (.cells #[.int .i64 x2, .int .i64 y2] t)
theorem bx3_cells (t : TypeId) (w : World) (x0 y0 x1 y1 x2 y2 : Int) (w' : World) (h : Bel (bx3 t w x0 y0 x1 y1 x2 y2) w') :
    w'.cell? ⟨w.heap.size, 0, none⟩ = some (.int .i64 x0) ∧ w'.cell? ⟨w.heap.size, 1, none⟩ = some (.int .i64 y0) ∧ w'.cell? ⟨w.heap.size + 1, 0, none⟩ = some (.int .i64 x1) ∧ w'.cell? ⟨w.heap.size + 1, 1, none⟩ = some (.int .i64 y1) ∧ w'.cell? ⟨w.heap.size + 1 + 1, 0, none⟩ = some (.int .i64 x2) ∧ w'.cell? ⟨w.heap.size + 1 + 1, 1, none⟩ = some (.int .i64 y2) := by
  have hs : (bx3 t w x0 y0 x1 y1 x2 y2).heap.size = w.heap.size + 3 := by simp [bx3]
  refine ⟨?_, ?_, ?_, ?_, ?_, ?_⟩
  · rw [h.out.cell (by rw [hs]; show w.heap.size < _; omega)]; simp [bx3, go_sem]
  · rw [h.out.cell (by rw [hs]; show w.heap.size < _; omega)]; simp [bx3, go_sem]
  · rw [h.out.cell (by rw [hs]; show w.heap.size + 1 < _; omega)]; simp [bx3, go_sem]
  · rw [h.out.cell (by rw [hs]; show w.heap.size + 1 < _; omega)]; simp [bx3, go_sem]
  · rw [h.out.cell (by rw [hs]; show w.heap.size + 1 + 1 < _; omega)]; simp [bx3, go_sem]
  · rw [h.out.cell (by rw [hs]; show w.heap.size + 1 + 1 < _; omega)]; simp [bx3, go_sem]
theorem bx3_bel (t : TypeId) (w : World) (x0 y0 x1 y1 x2 y2 : Int) : Bel w (bx3 t w x0 y0 x1 y1 x2 y2) := bel_alloc (bel_alloc (bel_alloc (Bel.refl _) _) _) _

/-- The world in which 4 points lie boxed. -/
def bx4 (t : TypeId) (w : World) (x0 y0 x1 y1 x2 y2 x3 y3 : Int) : World := (((w.alloc (.cells #[.int .i64 x0, .int .i64 y0] t)).alloc (.cells #[.int .i64 x1, .int .i64 y1] t)).alloc (.cells #[.int .i64 x2, .int .i64 y2] t)).alloc (.cells #[.int .i64 x3, .int .i64 y3] t)
theorem bx4_cells (t : TypeId) (w : World) (x0 y0 x1 y1 x2 y2 x3 y3 : Int) (w' : World) (h : Bel (bx4 t w x0 y0 x1 y1 x2 y2 x3 y3) w') :
    w'.cell? ⟨w.heap.size, 0, none⟩ = some (.int .i64 x0) ∧ w'.cell? ⟨w.heap.size, 1, none⟩ = some (.int .i64 y0) ∧ w'.cell? ⟨w.heap.size + 1, 0, none⟩ = some (.int .i64 x1) ∧ w'.cell? ⟨w.heap.size + 1, 1, none⟩ = some (.int .i64 y1) ∧ w'.cell? ⟨w.heap.size + 1 + 1, 0, none⟩ = some (.int .i64 x2) ∧ w'.cell? ⟨w.heap.size + 1 + 1, 1, none⟩ = some (.int .i64 y2) ∧ w'.cell? ⟨w.heap.size + 1 + 1 + 1, 0, none⟩ = some (.int .i64 x3) ∧ w'.cell? ⟨w.heap.size + 1 + 1 + 1, 1, none⟩ = some (.int .i64 y3) := by
  have hs : (bx4 t w x0 y0 x1 y1 x2 y2 x3 y3).heap.size = w.heap.size + 4 := by simp [bx4]
  refine ⟨?_, ?_, ?_, ?_, ?_, ?_, ?_, ?_⟩
  · rw [h.out.cell (by rw [hs]; show w.heap.size < _; omega)]; simp [bx4, go_sem]
  · rw [h.out.cell (by rw [hs]; show w.heap.size < _; omega)]; simp [bx4, go_sem]
  · rw [h.out.cell (by rw [hs]; show w.heap.size + 1 < _; omega)]; simp [bx4, go_sem]
  · rw [h.out.cell (by rw [hs]; show w.heap.size + 1 < _; omega)]; simp [bx4, go_sem]
  · rw [h.out.cell (by rw [hs]; show w.heap.size + 1 + 1 < _; omega)]; simp [bx4, go_sem]
  · rw [h.out.cell (by rw [hs]; show w.heap.size + 1 + 1 < _; omega)]; simp [bx4, go_sem]
  · rw [h.out.cell (by rw [hs]; show w.heap.size + 1 + 1 + 1 < _; omega)]; simp [bx4, go_sem]
  · rw [h.out.cell (by rw [hs]; show w.heap.size + 1 + 1 + 1 < _; omega)]; simp [bx4, go_sem]
theorem bx4_bel (t : TypeId) (w : World) (x0 y0 x1 y1 x2 y2 x3 y3 : Int) : Bel w (bx4 t w x0 y0 x1 y1 x2 y2 x3 y3) := bel_alloc (bel_alloc (bel_alloc (bel_alloc (Bel.refl _) _) _) _) _

/-- -1, 0, 1. -/
def sgn (n : Int) : Int := if 0 < n then 1 else if n < 0 then -1 else 0
theorem sgn_pos {n : Int} (h : 0 < n) : sgn n = 1 := by simp [sgn, h]
theorem sgn_neg {n : Int} (h : n < 0) : sgn n = -1 := by unfold sgn; rw [if_neg (by omega), if_pos h]
theorem sgn_zero {n : Int} (h : n = 0) : sgn n = 0 := by simp [sgn, h]
theorem sgn_bd (n : Int) : -1 ≤ sgn n ∧ sgn n ≤ 1 := by unfold sgn; split <;> (try split) <;> omega

/-- What tells the turn. -/
def trn (x0 y0 x1 y1 x2 y2 : Int) : Int := (x1 - x0) * (y2 - y0) - (y1 - y0) * (x2 - x0)
theorem trn_by (x0 y0 x1 y1 x2 y2 : Int) : (x1 - x0) * (y2 - y1) - (y1 - y0) * (x2 - x1) = trn x0 y0 x1 y1 x2 y2 := by
  unfold trn
  simp only [Int.sub_mul, Int.mul_sub, Int.mul_comm y1 x1, Int.mul_comm y0 x1, Int.mul_comm y1 x2, Int.mul_comm y0 x2, Int.mul_comm y1 x0, Int.mul_comm y0 x0]
  omega
theorem trn_bd {x0 y0 x1 y1 x2 y2 : Int} (a : POk x0 y0) (b : POk x1 y1) (c : POk x2 y2) : -400000000000000 ≤ (x1 - x0) * (y2 - y1) ∧ (x1 - x0) * (y2 - y1) ≤ 400000000000000 ∧ -400000000000000 ≤ (y1 - y0) * (x2 - x1) ∧ (y1 - y0) * (x2 - x1) ≤ 400000000000000 := by
  obtain ⟨a0, a1, a2, a3⟩ := a
  obtain ⟨b0, b1, b2, b3⟩ := b
  obtain ⟨c0, c1, c2, c3⟩ := c
  obtain ⟨p0, p1⟩ := mul_bd7 (u := x1 - x0) (v := y2 - y1) (by omega) (by omega) (by omega) (by omega)
  obtain ⟨q0, q1⟩ := mul_bd7 (u := y1 - y0) (v := x2 - x1) (by omega) (by omega) (by omega) (by omega)
  exact ⟨p0, p1, q0, q1⟩
/-- The turn as both tell it. -/
def turnOf (x0 y0 x1 y1 x2 y2 : Int) : Int := if pok x0 y0 && pok x1 y1 && pok x2 y2 then sgn (trn x0 y0 x1 y1 x2 y2) else 2

end Go.Proofs.YtkinpfnelmdmlaaDoor
