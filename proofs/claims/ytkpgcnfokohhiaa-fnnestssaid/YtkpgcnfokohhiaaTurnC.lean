/-
  Contracts of Turn and of what it is made of, in the program and in its model: for every three points.
-/
import Derived.Test.YtkpgcnfokohhiaaDistC
namespace Go.Proofs.Ytkpgcnfokohhiaa
open Go.RowKit

/-- The world in which 2 points lie boxed. -/
def bx2 (t : TypeId) (w : World) (x0 y0 x1 y1 : Int) : World := (w.alloc (.cells #[.int .i64 x0, .int .i64 y0] t)).alloc (.cells #[.int .i64 x1, .int .i64 y1] t)
theorem bx2_cells (t : TypeId) (w : World) (x0 y0 x1 y1 : Int) (w' : World) (h : Bel (bx2 t w x0 y0 x1 y1) w') :
    w'.cell? ⟨w.heap.size, 0, none⟩ = some (.int .i64 x0) ∧ w'.cell? ⟨w.heap.size, 1, none⟩ = some (.int .i64 y0) ∧ w'.cell? ⟨w.heap.size + 1, 0, none⟩ = some (.int .i64 x1) ∧ w'.cell? ⟨w.heap.size + 1, 1, none⟩ = some (.int .i64 y1) := by
  have hs : (bx2 t w x0 y0 x1 y1).heap.size = w.heap.size + 2 := by simp [bx2]
  refine ⟨?_, ?_, ?_, ?_⟩
  · rw [h.out.cell (by rw [hs]; show w.heap.size < _; omega)]; simp [bx2, go_sem]
  · rw [h.out.cell (by rw [hs]; show w.heap.size < _; omega)]; simp [bx2, go_sem]
  · rw [h.out.cell (by rw [hs]; show w.heap.size + 1 < _; omega)]; simp [bx2, go_sem]
  · rw [h.out.cell (by rw [hs]; show w.heap.size + 1 < _; omega)]; simp [bx2, go_sem]
theorem bx2_bel (t : TypeId) (w : World) (x0 y0 x1 y1 : Int) : Bel w (bx2 t w x0 y0 x1 y1) := bel_alloc (bel_alloc (Bel.refl _) _) _

/-- The world in which 3 points lie boxed. -/
def bx3 (t : TypeId) (w : World) (x0 y0 x1 y1 x2 y2 : Int) : World := ((w.alloc (.cells #[.int .i64 x0, .int .i64 y0] t)).alloc (.cells #[.int .i64 x1, .int .i64 y1] t)).alloc (.cells #[.int .i64 x2, .int .i64 y2] t)
theorem bx3_cells (t : TypeId) (w : World) (x0 y0 x1 y1 x2 y2 : Int) (w' : World) (h : Bel (bx3 t w x0 y0 x1 y1 x2 y2) w') :
    w'.cell? ⟨w.heap.size, 0, none⟩ = some (.int .i64 x0) ∧ w'.cell? ⟨w.heap.size, 1, none⟩ = some (.int .i64 y0) ∧ w'.cell? ⟨w.heap.size + 1, 0, none⟩ = some (.int .i64 x1) ∧ w'.cell? ⟨w.heap.size + 1, 1, none⟩ = some (.int .i64 y1) ∧ w'.cell? ⟨w.heap.size + 1 + 1, 0, none⟩ = some (.int .i64 x2) ∧ w'.cell? ⟨w.heap.size + 1 + 1, 1, none⟩ = some (.int .i64 y2) := by
  have hs : (bx3 t w x0 y0 x1 y1 x2 y2).heap.size = w.heap.size + 3 := by simp [bx3]
  refine ⟨?_, ?_, ?_, ?_, ?_, ?_⟩
  · rw [h.out.cell (by rw [hs]; show w.heap.size < _; omega)]; simp [bx3, go_sem]
  · rw [h.out.cell (by rw [hs]; show w.heap.size < _; omega)]; simp [bx3, go_sem]
  · rw [h.out.cell (by rw [hs]; show w.heap.size + 1 < _; omega)]; simp [bx3, go_sem]
  · rw [h.out.cell (by rw [hs]; show w.heap.size + 1 < _; omega)]; simp [bx3, go_sem]
  · rw [h.out.cell (by rw [hs]; show w.heap.size + 1 + 1 < _; omega)]; simp [bx3, go_sem]
  · rw [h.out.cell (by rw [hs]; show w.heap.size + 1 + 1 < _; omega)]; simp [bx3, go_sem]
theorem bx3_bel (t : TypeId) (w : World) (x0 y0 x1 y1 x2 y2 : Int) : Bel w (bx3 t w x0 y0 x1 y1 x2 y2) := bel_alloc (bel_alloc (bel_alloc (Bel.refl _) _) _) _

/-- The world in which 4 points lie boxed. -/
def bx4 (t : TypeId) (w : World) (x0 y0 x1 y1 x2 y2 x3 y3 : Int) : World := (((w.alloc (.cells #[.int .i64 x0, .int .i64 y0] t)).alloc (.cells #[.int .i64 x1, .int .i64 y1] t)).alloc (.cells #[.int .i64 x2, .int .i64 y2] t)).alloc (.cells #[.int .i64 x3, .int .i64 y3] t)
theorem bx4_cells (t : TypeId) (w : World) (x0 y0 x1 y1 x2 y2 x3 y3 : Int) (w' : World) (h : Bel (bx4 t w x0 y0 x1 y1 x2 y2 x3 y3) w') :
    w'.cell? ⟨w.heap.size, 0, none⟩ = some (.int .i64 x0) ∧ w'.cell? ⟨w.heap.size, 1, none⟩ = some (.int .i64 y0) ∧ w'.cell? ⟨w.heap.size + 1, 0, none⟩ = some (.int .i64 x1) ∧ w'.cell? ⟨w.heap.size + 1, 1, none⟩ = some (.int .i64 y1) ∧ w'.cell? ⟨w.heap.size + 1 + 1, 0, none⟩ = some (.int .i64 x2) ∧ w'.cell? ⟨w.heap.size + 1 + 1, 1, none⟩ = some (.int .i64 y2) ∧ w'.cell? ⟨w.heap.size + 1 + 1 + 1, 0, none⟩ = some (.int .i64 x3) ∧ w'.cell? ⟨w.heap.size + 1 + 1 + 1, 1, none⟩ = some (.int .i64 y3) := by
  have hs : (bx4 t w x0 y0 x1 y1 x2 y2 x3 y3).heap.size = w.heap.size + 4 := by simp [bx4]
  refine ⟨?_, ?_, ?_, ?_, ?_, ?_, ?_, ?_⟩
  · rw [h.out.cell (by rw [hs]; show w.heap.size < _; omega)]; simp [bx4, go_sem]
  · rw [h.out.cell (by rw [hs]; show w.heap.size < _; omega)]; simp [bx4, go_sem]
  · rw [h.out.cell (by rw [hs]; show w.heap.size + 1 < _; omega)]; simp [bx4, go_sem]
  · rw [h.out.cell (by rw [hs]; show w.heap.size + 1 < _; omega)]; simp [bx4, go_sem]
  · rw [h.out.cell (by rw [hs]; show w.heap.size + 1 + 1 < _; omega)]; simp [bx4, go_sem]
  · rw [h.out.cell (by rw [hs]; show w.heap.size + 1 + 1 < _; omega)]; simp [bx4, go_sem]
  · rw [h.out.cell (by rw [hs]; show w.heap.size + 1 + 1 + 1 < _; omega)]; simp [bx4, go_sem]
  · rw [h.out.cell (by rw [hs]; show w.heap.size + 1 + 1 + 1 < _; omega)]; simp [bx4, go_sem]
theorem bx4_bel (t : TypeId) (w : World) (x0 y0 x1 y1 x2 y2 x3 y3 : Int) : Bel w (bx4 t w x0 y0 x1 y1 x2 y2 x3 y3) := bel_alloc (bel_alloc (bel_alloc (bel_alloc (Bel.refl _) _) _) _) _

/-- -1, 0, 1. -/
def sgn (n : Int) : Int := if 0 < n then 1 else if n < 0 then -1 else 0
theorem sgn_pos {n : Int} (h : 0 < n) : sgn n = 1 := by simp [sgn, h]
theorem sgn_neg {n : Int} (h : n < 0) : sgn n = -1 := by unfold sgn; rw [if_neg (by omega), if_pos h]
theorem sgn_zero {n : Int} (h : n = 0) : sgn n = 0 := by simp [sgn, h]
theorem sgn_bd (n : Int) : -1 ≤ sgn n ∧ sgn n ≤ 1 := by unfold sgn; split <;> (try split) <;> omega

/-- What tells the turn. -/
def trn (x0 y0 x1 y1 x2 y2 : Int) : Int := (x1 - x0) * (y2 - y0) - (y1 - y0) * (x2 - x0)
theorem trn_by (x0 y0 x1 y1 x2 y2 : Int) : (x1 - x0) * (y2 - y1) - (y1 - y0) * (x2 - x1) = trn x0 y0 x1 y1 x2 y2 := by
  unfold trn
  simp only [Int.sub_mul, Int.mul_sub, Int.mul_comm y1 x1, Int.mul_comm y0 x1, Int.mul_comm y1 x2, Int.mul_comm y0 x2, Int.mul_comm y1 x0, Int.mul_comm y0 x0]
  omega
theorem trn_bd {x0 y0 x1 y1 x2 y2 : Int} (a : POk x0 y0) (b : POk x1 y1) (c : POk x2 y2) : -400000000000000 ≤ (x1 - x0) * (y2 - y1) ∧ (x1 - x0) * (y2 - y1) ≤ 400000000000000 ∧ -400000000000000 ≤ (y1 - y0) * (x2 - x1) ∧ (y1 - y0) * (x2 - x1) ≤ 400000000000000 := by
  obtain ⟨a0, a1, a2, a3⟩ := a
  obtain ⟨b0, b1, b2, b3⟩ := b
  obtain ⟨c0, c1, c2, c3⟩ := c
  obtain ⟨p0, p1⟩ := mul_bd7 (u := x1 - x0) (v := y2 - y1) (by omega) (by omega) (by omega) (by omega)
  obtain ⟨q0, q1⟩ := mul_bd7 (u := y1 - y0) (v := x2 - x1) (by omega) (by omega) (by omega) (by omega)
  exact ⟨p0, p1, q0, q1⟩
/-- The turn as both tell it. -/
def turnOf (x0 y0 x1 y1 x2 y2 : Int) : Int := if pok x0 y0 && pok x1 y1 && pok x2 y2 then sgn (trn x0 y0 x1 y1 x2 y2) else 2

theorem sign_any (n : Int) (w : World) :
    Calls Try.prog 42 #[.int .i64 n] w fun e w' => e = .returned (.int .i64 (sgn n)) ∧ w' = w := by
  by_cases h1 : 0 < n
  · rw [sgn_pos h1]
    go_enter Try.func42, Try.ntmps42
    go_wp2
    go_ret
    exact ⟨rfl, rfl⟩
  · by_cases h2 : n < 0
    · rw [sgn_neg h2]
      go_enter Try.func42, Try.ntmps42
      go_wp2
      go_ret
      exact ⟨rfl, rfl⟩
    · rw [sgn_zero (by omega)]
      go_enter Try.func42, Try.ntmps42
      go_wp2
      go_ret
      exact ⟨rfl, rfl⟩

set_option maxHeartbeats 4000000 in
theorem turn_any (x0 y0 x1 y1 x2 y2 : Int) (w : World) :
    Calls Try.prog 35 #[pt x0 y0, pt x1 y1, pt x2 y2] w fun e w' => e = .returned (.int .i64 (turnOf x0 y0 x1 y1 x2 y2)) ∧ Bel w w' := by
  by_cases h0 : pok x0 y0 = true
  · skip
    by_cases h1 : pok x1 y1 = true
    · skip
      by_cases h2 : pok x2 y2 = true
      · skip
        have hd : turnOf x0 y0 x1 y1 x2 y2 = sgn (trn x0 y0 x1 y1 x2 y2) := by simp [turnOf, h0, h1, h2]
        rw [hd]; clear hd
        have a := pOk_iff.1 h0
        have b := pOk_iff.1 h1
        have c := pOk_iff.1 h2
        obtain ⟨p0, p1, q0, q1⟩ := trn_bd a b c
        have hR := bx3_cells 26 w x0 y0 x1 y1 x2 y2
        go_enter Try.func35, Try.ntmps35
        go_wp2_with fail
        refine (pointOk_any _ _ _).mono ?_
        rintro e w1 ⟨rfl, hb1⟩
        have g1 : Bel (bx3 26 w x0 y0 x1 y1 x2 y2) w1 := hb1
        clear hb1
        go_wp2_with fail
        refine (pointOk_any _ _ _).mono ?_
        rintro e w2 ⟨rfl, hb2⟩
        have g2 : Bel (bx3 26 w x0 y0 x1 y1 x2 y2) w2 := bel_step g1 hb2
        clear hb2
        clear g1
        go_wp2_with fail
        refine (pointOk_any _ _ _).mono ?_
        rintro e w3 ⟨rfl, hb3⟩
        have g3 : Bel (bx3 26 w x0 y0 x1 y1 x2 y2) w3 := bel_step g2 hb3
        clear hb3
        clear g2
        go_wp2
        go_region_held3 (fun w' => Bel (bx3 26 w x0 y0 x1 y1 x2 y2) w') (repeat (first | exact g3 | refine Bel.drew ?_ | refine bel_alloc ?_ _ | refine bel_set2 ?_ ?_ _ | refine bel_set3 ?_ ?_ _ | assumption | refine bel_then (by assumption) ?_))
          (first
            | (go_at_call 41; refine (minus_exact _ _ _ _ _ (by assumption) (by assumption)).mono ?_; rintro e w' ⟨rfl, rfl⟩))
        all_goals
          go_wp2_with (go_at_call 42; refine (sign_any _ _).mono ?_; rintro e w' ⟨rfl, rfl⟩)
          go_ret
          exact ⟨ret_int (congrArg sgn (trn_by x0 y0 x1 y1 x2 y2)), bel_step (bx3_bel 26 w x0 y0 x1 y1 x2 y2) (by assumption)⟩
      · have h2 : pok x2 y2 = false := by simpa using h2
        have hd : turnOf x0 y0 x1 y1 x2 y2 = 2 := by simp [turnOf, h2]
        rw [hd]; clear hd
        have hR := bx3_cells 26 w x0 y0 x1 y1 x2 y2
        go_enter Try.func35, Try.ntmps35
        go_wp2_with fail
        refine (pointOk_any _ _ _).mono ?_
        rintro e w1 ⟨rfl, hb1⟩
        have g1 : Bel (bx3 26 w x0 y0 x1 y1 x2 y2) w1 := hb1
        clear hb1
        go_wp2_with fail
        refine (pointOk_any _ _ _).mono ?_
        rintro e w2 ⟨rfl, hb2⟩
        have g2 : Bel (bx3 26 w x0 y0 x1 y1 x2 y2) w2 := bel_step g1 hb2
        clear hb2
        clear g1
        go_wp2_with fail
        refine (pointOk_any _ _ _).mono ?_
        rintro e w3 ⟨rfl, hb3⟩
        have g3 : Bel (bx3 26 w x0 y0 x1 y1 x2 y2) w3 := bel_step g2 hb3
        clear hb3
        clear g2
        go_wp2
        go_ret
        exact ⟨rfl, bel_step (bx3_bel 26 w x0 y0 x1 y1 x2 y2) g3⟩
    · have h1 : pok x1 y1 = false := by simpa using h1
      have hd : turnOf x0 y0 x1 y1 x2 y2 = 2 := by simp [turnOf, h1]
      rw [hd]; clear hd
      have hR := bx3_cells 26 w x0 y0 x1 y1 x2 y2
      go_enter Try.func35, Try.ntmps35
      go_wp2_with fail
      refine (pointOk_any _ _ _).mono ?_
      rintro e w1 ⟨rfl, hb1⟩
      have g1 : Bel (bx3 26 w x0 y0 x1 y1 x2 y2) w1 := hb1
      clear hb1
      go_wp2_with fail
      refine (pointOk_any _ _ _).mono ?_
      rintro e w2 ⟨rfl, hb2⟩
      have g2 : Bel (bx3 26 w x0 y0 x1 y1 x2 y2) w2 := bel_step g1 hb2
      clear hb2
      clear g1
      go_wp2
      go_ret
      exact ⟨rfl, bel_step (bx3_bel 26 w x0 y0 x1 y1 x2 y2) g2⟩
  · have h0 : pok x0 y0 = false := by simpa using h0
    have hd : turnOf x0 y0 x1 y1 x2 y2 = 2 := by simp [turnOf, h0]
    rw [hd]; clear hd
    have hR := bx3_cells 26 w x0 y0 x1 y1 x2 y2
    go_enter Try.func35, Try.ntmps35
    go_wp2_with fail
    refine (pointOk_any _ _ _).mono ?_
    rintro e w1 ⟨rfl, hb1⟩
    have g1 : Bel (bx3 26 w x0 y0 x1 y1 x2 y2) w1 := hb1
    clear hb1
    go_wp2
    go_ret
    exact ⟨rfl, bel_step (bx3_bel 26 w x0 y0 x1 y1 x2 y2) g1⟩
end Go.Proofs.Ytkpgcnfokohhiaa
