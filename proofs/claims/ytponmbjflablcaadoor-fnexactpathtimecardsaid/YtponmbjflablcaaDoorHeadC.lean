/-
  Contracts of Heading, in the program and in its model: for every two points; the table of winds holds what the program's text lays.
-/
import Derived.Test.YtponmbjflablcaaDoorGeo
import Derived.Deep.RegionHeld3
namespace Go.Proofs.YtponmbjflablcaaDoor
open Go.RowKit

structure POk (x y : Int) : Prop where
  x0 : -10000000 ≤ x
  x1 : x ≤ 10000000
  y0 : -10000000 ≤ y
  y1 : y ≤ 10000000
theorem pOk_iff {x y : Int} : pok x y = true ↔ POk x y := by
  simp only [pok, Bool.and_eq_true, cok_iff]
  exact ⟨fun ⟨⟨a, b⟩, c, d⟩ => ⟨a, b, c, d⟩, fun ⟨a, b, c, d⟩ => ⟨⟨a, b⟩, c, d⟩⟩
theorem minus_any (x0 y0 x1 y1 : Int) (w : World) (a : POk x0 y0) (b : POk x1 y1) :
    Calls Tryd.prog 87 #[pt x0 y0, pt x1 y1] w fun e w' => e = .returned (pt (x0 - x1) (y0 - y1)) ∧ Bel w w' := by
  obtain ⟨a0, a1, a2, a3⟩ := a
  obtain ⟨b0, b1, b2, b3⟩ := b
  go_enter Tryd.func87, Tryd.ntmps87
  go_wp2
  exact bodyPost_ret (v := pt (x0 - x1) (y0 - y1)) (by simp [results, Tryd.results87, go_sem]) rfl ⟨rfl, bel_alloc (bel_alloc (bel_alloc (Bel.refl _) _) _) _⟩
/-- The world in which 2 points lie boxed. -/
def bx2 (t : TypeId) (w : World) (x0 y0 x1 y1 : Int) : World := (w.alloc (.cells #[.int .i64 x0, .int .i64 y0] t)).alloc (.cells #[.int .i64 x1, .int .i64 y1] t)
theorem bx2_cells (t : TypeId) (w : World) (x0 y0 x1 y1 : Int) (w' : World) (h : Bel (bx2 t w x0 y0 x1 y1) w') :
    w'.cell? ⟨w.heap.size, 0, none⟩ = some (.int .i64 x0) ∧ w'.cell? ⟨w.heap.size, 1, none⟩ = some (.int .i64 y0) ∧ w'.cell? ⟨w.heap.size + 1, 0, none⟩ = some (.int .i64 x1) ∧ w'.cell? ⟨w.heap.size + 1, 1, none⟩ = some (.int .i64 y1) := by
  have hs : (bx2 t w x0 y0 x1 y1).heap.size = w.heap.size + 2 := by simp [bx2]
  refine ⟨?_, ?_, ?_, ?_⟩
  · rw [h.out.cell (by rw [hs]; show w.heap.size < _; omega)]; simp [bx2, go_sem]
  · rw [h.out.cell (by rw [hs]; show w.heap.size < _; omega)]; simp [bx2, go_sem]
  · rw [h.out.cell (by rw [hs]; show w.heap.size + 1 < _; omega)]; simp [bx2, go_sem]
  · rw [h.out.cell (by rw [hs]; show w.heap.size + 1 < _; omega)]; simp [bx2, go_sem]
theorem bx2_bel (t : TypeId) (w : World) (x0 y0 x1 y1 : Int) : Bel w (bx2 t w x0 y0 x1 y1) := bel_alloc (bel_alloc (Bel.refl _) _) _

theorem bel_cell {W w' : World} (h : Bel W w') {b o : Nat} {v : Value} (hb : b < W.heap.size) (hc : W.cell? ⟨b, o, none⟩ = some v) : w'.cell? ⟨b, o, none⟩ = some v := by
  rw [h.out.cell (p := ⟨b, o, none⟩) hb]; exact hc

/-- How far off, whatever the side. -/
def ab (n : Int) : Int := max n (-n)
theorem ab_pos {n : Int} (h : 0 ≤ n) : ab n = n := by unfold ab; omega
theorem ab_neg {n : Int} (h : n < 0) : ab n = -n := by unfold ab; omega
theorem ab_bd {n : Int} (h0 : -20000000 ≤ n) (h1 : n ≤ 20000000) : 0 ≤ ab n ∧ ab n ≤ 20000000 := by unfold ab; omega
theorem abs_any (n : Int) (w : World) (h0 : -20000000 ≤ n) (h1 : n ≤ 20000000) :
    Calls Tryd.prog 88 #[.int .i64 n] w fun e w' => e = .returned (.int .i64 (ab n)) ∧ w' = w := by
  unfold ab
  go_enter Tryd.func88, Tryd.ntmps88
  go_wp2
  go_ret
  exact ⟨rfl, rfl⟩
theorem specAbs_any (n : Int) (w : World) (h0 : -20000000 ≤ n) (h1 : n ≤ 20000000) :
    Calls Tryd.prog 82 #[.int .i64 n] w fun e w' => e = .returned (.int .i64 (ab n)) ∧ w' = w := by
  by_cases h : n < 0
  · rw [ab_neg h]
    go_enter Tryd.func82, Tryd.ntmps82
    go_wp2
    go_ret
    exact ⟨rfl, rfl⟩
  · rw [ab_pos (by omega)]
    go_enter Tryd.func82, Tryd.ntmps82
    go_wp2
    go_ret
    exact ⟨rfl, rfl⟩
/-- -1, 0, 1. -/
def sgn (n : Int) : Int := if 0 < n then 1 else if n < 0 then -1 else 0
theorem sgn_pos {n : Int} (h : 0 < n) : sgn n = 1 := by simp [sgn, h]
theorem sgn_neg {n : Int} (h : n < 0) : sgn n = -1 := by unfold sgn; rw [if_neg (by omega), if_pos h]
theorem sgn_zero {n : Int} (h : n = 0) : sgn n = 0 := by simp [sgn, h]
theorem sign_any (n : Int) (w : World) :
    Calls Tryd.prog 89 #[.int .i64 n] w fun e w' => e = .returned (.int .i64 (sgn n)) ∧ w' = w := by
  by_cases h1 : 0 < n
  · rw [sgn_pos h1]
    go_enter Tryd.func89, Tryd.ntmps89
    go_wp2
    go_ret
    exact ⟨rfl, rfl⟩
  · by_cases h2 : n < 0
    · rw [sgn_neg h2]
      go_enter Tryd.func89, Tryd.ntmps89
      go_wp2
      go_ret
      exact ⟨rfl, rfl⟩
    · rw [sgn_zero (by omega)]
      go_enter Tryd.func89, Tryd.ntmps89
      go_wp2
      go_ret
      exact ⟨rfl, rfl⟩

/-- The wind of a difference that is not nothing. -/
def wind (dx dy : Int) : Int :=
  if 5 * ab dy < 2 * ab dx then (if 0 < dx then 0 else 4)
  else if 5 * ab dx < 2 * ab dy then (if 0 < dy then 2 else 6)
  else if 0 < dx ∧ 0 < dy then 1 else if dx < 0 ∧ 0 < dy then 3 else if dx < 0 then 5 else 7
/-- Heading as both tell it. -/
def headOf (x0 y0 x1 y1 : Int) : Int := if pok x0 y0 && pok x1 y1 && !(decide (x0 = x1) && decide (y0 = y1)) then wind (x1 - x0) (y1 - y0) else -1

/-! ### Which wind it is, in eight cases -/
theorem wind_0 {x0 y0 x1 y1 : Int} (hA : 5 * ab (y1 - y0) < 2 * ab (x1 - x0)) (hs0 : 0 < x1 - x0) : wind (x1 - x0) (y1 - y0) = 0 := by
  unfold wind
  rw [if_pos hA]
  rw [if_pos hs0]
theorem wind_1 {x0 y0 x1 y1 : Int} (hA : 5 * ab (y1 - y0) < 2 * ab (x1 - x0)) (hs0 : x1 - x0 < 0) : wind (x1 - x0) (y1 - y0) = 4 := by
  unfold wind
  rw [if_pos hA]
  rw [if_neg (by omega)]
theorem wind_2 {x0 y0 x1 y1 : Int} (hA : 2 * ab (x1 - x0) ≤ 5 * ab (y1 - y0)) (hB : 5 * ab (x1 - x0) < 2 * ab (y1 - y0)) (hs0 : 0 < y1 - y0) : wind (x1 - x0) (y1 - y0) = 2 := by
  unfold wind
  rw [if_neg (by omega), if_pos hB]
  rw [if_pos hs0]
theorem wind_3 {x0 y0 x1 y1 : Int} (hA : 2 * ab (x1 - x0) ≤ 5 * ab (y1 - y0)) (hB : 5 * ab (x1 - x0) < 2 * ab (y1 - y0)) (hs0 : y1 - y0 < 0) : wind (x1 - x0) (y1 - y0) = 6 := by
  unfold wind
  rw [if_neg (by omega), if_pos hB]
  rw [if_neg (by omega)]
theorem wind_4 {x0 y0 x1 y1 : Int} (hA : 2 * ab (x1 - x0) ≤ 5 * ab (y1 - y0)) (hB : 2 * ab (y1 - y0) ≤ 5 * ab (x1 - x0)) (hs0 : 0 < x1 - x0) (hs1 : 0 < y1 - y0) : wind (x1 - x0) (y1 - y0) = 1 := by
  unfold wind
  rw [if_neg (by omega), if_neg (by omega)]
  rw [if_pos ⟨hs0, hs1⟩]
theorem wind_5 {x0 y0 x1 y1 : Int} (hA : 2 * ab (x1 - x0) ≤ 5 * ab (y1 - y0)) (hB : 2 * ab (y1 - y0) ≤ 5 * ab (x1 - x0)) (hs0 : x1 - x0 < 0) (hs1 : 0 < y1 - y0) : wind (x1 - x0) (y1 - y0) = 3 := by
  unfold wind
  rw [if_neg (by omega), if_neg (by omega)]
  rw [if_neg (by omega), if_pos ⟨hs0, hs1⟩]
theorem wind_6 {x0 y0 x1 y1 : Int} (hA : 2 * ab (x1 - x0) ≤ 5 * ab (y1 - y0)) (hB : 2 * ab (y1 - y0) ≤ 5 * ab (x1 - x0)) (hs0 : x1 - x0 < 0) (hs1 : y1 - y0 < 0) : wind (x1 - x0) (y1 - y0) = 5 := by
  unfold wind
  rw [if_neg (by omega), if_neg (by omega)]
  rw [if_neg (by omega), if_neg (by omega), if_pos hs0]
theorem wind_7 {x0 y0 x1 y1 : Int} (hA : 2 * ab (x1 - x0) ≤ 5 * ab (y1 - y0)) (hB : 2 * ab (y1 - y0) ≤ 5 * ab (x1 - x0)) (hs0 : 0 < x1 - x0) (hs1 : y1 - y0 < 0) : wind (x1 - x0) (y1 - y0) = 7 := by
  unfold wind
  rw [if_neg (by omega), if_neg (by omega)]
  rw [if_neg (by omega), if_neg (by omega), if_neg (by omega)]

theorem head_ok {x0 y0 x1 y1 : Int} (h0 : pok x0 y0 = true) (h1 : pok x1 y1 = true) (hne : ¬ (x0 = x1 ∧ y0 = y1)) : headOf x0 y0 x1 y1 = wind (x1 - x0) (y1 - y0) := by
  unfold headOf
  rw [h0, h1, if_pos]
  simp only [Bool.true_and, Bool.not_eq_true', Bool.and_eq_false_iff, decide_eq_false_iff_not]
  omega
theorem head_same {x y : Int} : headOf x y x y = -1 := by simp [headOf]
theorem head_not {x0 y0 x1 y1 : Int} (h : pok x0 y0 = false ∨ pok x1 y1 = false) : headOf x0 y0 x1 y1 = -1 := by
  rcases h with h | h <;> simp [headOf, h]

theorem specHead_0 (x0 y0 x1 y1 : Int) (w : World) (h0 : pok x0 y0 = true) (h1 : pok x1 y1 = true) (he : (x0 == x1) = false) (hA : 5 * ab (y1 - y0) < 2 * ab (x1 - x0)) (hs0 : 0 < x1 - x0) :
    Calls Tryd.prog 64 #[pt x0 y0, pt x1 y1] w fun e w' => e = .returned (.int .i64 0) ∧ Bel w w' := by
  obtain ⟨a0, a1, a2, a3⟩ := pOk_iff.1 h0
  obtain ⟨b0, b1, b2, b3⟩ := pOk_iff.1 h1
  obtain ⟨p0, p1⟩ := ab_bd (n := x1 - x0) (by omega) (by omega)
  obtain ⟨q0, q1⟩ := ab_bd (n := y1 - y0) (by omega) (by omega)
  have hR := bx2_cells 79 w x0 y0 x1 y1
  go_enter Tryd.func64, Tryd.ntmps64
  go_wp2_with fail
  refine (specPointOk_any _ _ _).mono ?_
  rintro e w1 ⟨rfl, hb1⟩
  have g1 : Bel (bx2 79 w x0 y0 x1 y1) w1 := hb1
  clear hb1
  go_wp2_with fail
  refine (specPointOk_any _ _ _).mono ?_
  rintro e w2 ⟨rfl, hb2⟩
  have g2 : Bel (bx2 79 w x0 y0 x1 y1) w2 := bel_step g1 hb2
  clear hb2 g1
  go_wp2_with fail
  refine (specAbs_any _ _ (by omega) (by omega)).mono ?_
  rintro e w3 ⟨rfl, rfl⟩
  go_wp2_with fail
  refine (specAbs_any _ _ (by omega) (by omega)).mono ?_
  rintro e w4 ⟨rfl, rfl⟩
  go_wp2
  go_ret
  exact ⟨rfl, bel_step (bx2_bel 79 w x0 y0 x1 y1) g2⟩

theorem specHead_1 (x0 y0 x1 y1 : Int) (w : World) (h0 : pok x0 y0 = true) (h1 : pok x1 y1 = true) (he : (x0 == x1) = false) (hA : 5 * ab (y1 - y0) < 2 * ab (x1 - x0)) (hs0 : x1 - x0 < 0) :
    Calls Tryd.prog 64 #[pt x0 y0, pt x1 y1] w fun e w' => e = .returned (.int .i64 4) ∧ Bel w w' := by
  obtain ⟨a0, a1, a2, a3⟩ := pOk_iff.1 h0
  obtain ⟨b0, b1, b2, b3⟩ := pOk_iff.1 h1
  obtain ⟨p0, p1⟩ := ab_bd (n := x1 - x0) (by omega) (by omega)
  obtain ⟨q0, q1⟩ := ab_bd (n := y1 - y0) (by omega) (by omega)
  have hR := bx2_cells 79 w x0 y0 x1 y1
  go_enter Tryd.func64, Tryd.ntmps64
  go_wp2_with fail
  refine (specPointOk_any _ _ _).mono ?_
  rintro e w1 ⟨rfl, hb1⟩
  have g1 : Bel (bx2 79 w x0 y0 x1 y1) w1 := hb1
  clear hb1
  go_wp2_with fail
  refine (specPointOk_any _ _ _).mono ?_
  rintro e w2 ⟨rfl, hb2⟩
  have g2 : Bel (bx2 79 w x0 y0 x1 y1) w2 := bel_step g1 hb2
  clear hb2 g1
  go_wp2_with fail
  refine (specAbs_any _ _ (by omega) (by omega)).mono ?_
  rintro e w3 ⟨rfl, rfl⟩
  go_wp2_with fail
  refine (specAbs_any _ _ (by omega) (by omega)).mono ?_
  rintro e w4 ⟨rfl, rfl⟩
  go_wp2
  go_ret
  exact ⟨rfl, bel_step (bx2_bel 79 w x0 y0 x1 y1) g2⟩

theorem specHead_2 (x0 y0 x1 y1 : Int) (w : World) (h0 : pok x0 y0 = true) (h1 : pok x1 y1 = true) (he : (x0 == x1) = false) (hA : 2 * ab (x1 - x0) ≤ 5 * ab (y1 - y0)) (hB : 5 * ab (x1 - x0) < 2 * ab (y1 - y0)) (hs0 : 0 < y1 - y0) :
    Calls Tryd.prog 64 #[pt x0 y0, pt x1 y1] w fun e w' => e = .returned (.int .i64 2) ∧ Bel w w' := by
  obtain ⟨a0, a1, a2, a3⟩ := pOk_iff.1 h0
  obtain ⟨b0, b1, b2, b3⟩ := pOk_iff.1 h1
  obtain ⟨p0, p1⟩ := ab_bd (n := x1 - x0) (by omega) (by omega)
  obtain ⟨q0, q1⟩ := ab_bd (n := y1 - y0) (by omega) (by omega)
  have hR := bx2_cells 79 w x0 y0 x1 y1
  go_enter Tryd.func64, Tryd.ntmps64
  go_wp2_with fail
  refine (specPointOk_any _ _ _).mono ?_
  rintro e w1 ⟨rfl, hb1⟩
  have g1 : Bel (bx2 79 w x0 y0 x1 y1) w1 := hb1
  clear hb1
  go_wp2_with fail
  refine (specPointOk_any _ _ _).mono ?_
  rintro e w2 ⟨rfl, hb2⟩
  have g2 : Bel (bx2 79 w x0 y0 x1 y1) w2 := bel_step g1 hb2
  clear hb2 g1
  go_wp2_with fail
  refine (specAbs_any _ _ (by omega) (by omega)).mono ?_
  rintro e w3 ⟨rfl, rfl⟩
  go_wp2_with fail
  refine (specAbs_any _ _ (by omega) (by omega)).mono ?_
  rintro e w4 ⟨rfl, rfl⟩
  go_wp2
  go_ret
  exact ⟨rfl, bel_step (bx2_bel 79 w x0 y0 x1 y1) g2⟩

theorem specHead_3 (x0 y0 x1 y1 : Int) (w : World) (h0 : pok x0 y0 = true) (h1 : pok x1 y1 = true) (he : (x0 == x1) = false) (hA : 2 * ab (x1 - x0) ≤ 5 * ab (y1 - y0)) (hB : 5 * ab (x1 - x0) < 2 * ab (y1 - y0)) (hs0 : y1 - y0 < 0) :
    Calls Tryd.prog 64 #[pt x0 y0, pt x1 y1] w fun e w' => e = .returned (.int .i64 6) ∧ Bel w w' := by
  obtain ⟨a0, a1, a2, a3⟩ := pOk_iff.1 h0
  obtain ⟨b0, b1, b2, b3⟩ := pOk_iff.1 h1
  obtain ⟨p0, p1⟩ := ab_bd (n := x1 - x0) (by omega) (by omega)
  obtain ⟨q0, q1⟩ := ab_bd (n := y1 - y0) (by omega) (by omega)
  have hR := bx2_cells 79 w x0 y0 x1 y1
  go_enter Tryd.func64, Tryd.ntmps64
  go_wp2_with fail
  refine (specPointOk_any _ _ _).mono ?_
  rintro e w1 ⟨rfl, hb1⟩
  have g1 : Bel (bx2 79 w x0 y0 x1 y1) w1 := hb1
  clear hb1
  go_wp2_with fail
  refine (specPointOk_any _ _ _).mono ?_
  rintro e w2 ⟨rfl, hb2⟩
  have g2 : Bel (bx2 79 w x0 y0 x1 y1) w2 := bel_step g1 hb2
  clear hb2 g1
  go_wp2_with fail
  refine (specAbs_any _ _ (by omega) (by omega)).mono ?_
  rintro e w3 ⟨rfl, rfl⟩
  go_wp2_with fail
  refine (specAbs_any _ _ (by omega) (by omega)).mono ?_
  rintro e w4 ⟨rfl, rfl⟩
  go_wp2
  go_ret
  exact ⟨rfl, bel_step (bx2_bel 79 w x0 y0 x1 y1) g2⟩

theorem specHead_4 (x0 y0 x1 y1 : Int) (w : World) (h0 : pok x0 y0 = true) (h1 : pok x1 y1 = true) (he : (x0 == x1) = false) (hA : 2 * ab (x1 - x0) ≤ 5 * ab (y1 - y0)) (hB : 2 * ab (y1 - y0) ≤ 5 * ab (x1 - x0)) (hs0 : 0 < x1 - x0) (hs1 : 0 < y1 - y0) :
    Calls Tryd.prog 64 #[pt x0 y0, pt x1 y1] w fun e w' => e = .returned (.int .i64 1) ∧ Bel w w' := by
  obtain ⟨a0, a1, a2, a3⟩ := pOk_iff.1 h0
  obtain ⟨b0, b1, b2, b3⟩ := pOk_iff.1 h1
  obtain ⟨p0, p1⟩ := ab_bd (n := x1 - x0) (by omega) (by omega)
  obtain ⟨q0, q1⟩ := ab_bd (n := y1 - y0) (by omega) (by omega)
  have hR := bx2_cells 79 w x0 y0 x1 y1
  go_enter Tryd.func64, Tryd.ntmps64
  go_wp2_with fail
  refine (specPointOk_any _ _ _).mono ?_
  rintro e w1 ⟨rfl, hb1⟩
  have g1 : Bel (bx2 79 w x0 y0 x1 y1) w1 := hb1
  clear hb1
  go_wp2_with fail
  refine (specPointOk_any _ _ _).mono ?_
  rintro e w2 ⟨rfl, hb2⟩
  have g2 : Bel (bx2 79 w x0 y0 x1 y1) w2 := bel_step g1 hb2
  clear hb2 g1
  go_wp2_with fail
  refine (specAbs_any _ _ (by omega) (by omega)).mono ?_
  rintro e w3 ⟨rfl, rfl⟩
  go_wp2_with fail
  refine (specAbs_any _ _ (by omega) (by omega)).mono ?_
  rintro e w4 ⟨rfl, rfl⟩
  go_wp2
  go_ret
  exact ⟨rfl, bel_step (bx2_bel 79 w x0 y0 x1 y1) g2⟩

theorem specHead_5 (x0 y0 x1 y1 : Int) (w : World) (h0 : pok x0 y0 = true) (h1 : pok x1 y1 = true) (he : (x0 == x1) = false) (hA : 2 * ab (x1 - x0) ≤ 5 * ab (y1 - y0)) (hB : 2 * ab (y1 - y0) ≤ 5 * ab (x1 - x0)) (hs0 : x1 - x0 < 0) (hs1 : 0 < y1 - y0) :
    Calls Tryd.prog 64 #[pt x0 y0, pt x1 y1] w fun e w' => e = .returned (.int .i64 3) ∧ Bel w w' := by
  obtain ⟨a0, a1, a2, a3⟩ := pOk_iff.1 h0
  obtain ⟨b0, b1, b2, b3⟩ := pOk_iff.1 h1
  obtain ⟨p0, p1⟩ := ab_bd (n := x1 - x0) (by omega) (by omega)
  obtain ⟨q0, q1⟩ := ab_bd (n := y1 - y0) (by omega) (by omega)
  have hR := bx2_cells 79 w x0 y0 x1 y1
  go_enter Tryd.func64, Tryd.ntmps64
  go_wp2_with fail
  refine (specPointOk_any _ _ _).mono ?_
  rintro e w1 ⟨rfl, hb1⟩
  have g1 : Bel (bx2 79 w x0 y0 x1 y1) w1 := hb1
  clear hb1
  go_wp2_with fail
  refine (specPointOk_any _ _ _).mono ?_
  rintro e w2 ⟨rfl, hb2⟩
  have g2 : Bel (bx2 79 w x0 y0 x1 y1) w2 := bel_step g1 hb2
  clear hb2 g1
  go_wp2_with fail
  refine (specAbs_any _ _ (by omega) (by omega)).mono ?_
  rintro e w3 ⟨rfl, rfl⟩
  go_wp2_with fail
  refine (specAbs_any _ _ (by omega) (by omega)).mono ?_
  rintro e w4 ⟨rfl, rfl⟩
  go_wp2
  go_ret
  exact ⟨rfl, bel_step (bx2_bel 79 w x0 y0 x1 y1) g2⟩

theorem specHead_6 (x0 y0 x1 y1 : Int) (w : World) (h0 : pok x0 y0 = true) (h1 : pok x1 y1 = true) (he : (x0 == x1) = false) (hA : 2 * ab (x1 - x0) ≤ 5 * ab (y1 - y0)) (hB : 2 * ab (y1 - y0) ≤ 5 * ab (x1 - x0)) (hs0 : x1 - x0 < 0) (hs1 : y1 - y0 < 0) :
    Calls Tryd.prog 64 #[pt x0 y0, pt x1 y1] w fun e w' => e = .returned (.int .i64 5) ∧ Bel w w' := by
  obtain ⟨a0, a1, a2, a3⟩ := pOk_iff.1 h0
  obtain ⟨b0, b1, b2, b3⟩ := pOk_iff.1 h1
  obtain ⟨p0, p1⟩ := ab_bd (n := x1 - x0) (by omega) (by omega)
  obtain ⟨q0, q1⟩ := ab_bd (n := y1 - y0) (by omega) (by omega)
  have hR := bx2_cells 79 w x0 y0 x1 y1
  go_enter Tryd.func64, Tryd.ntmps64
  go_wp2_with fail
  refine (specPointOk_any _ _ _).mono ?_
  rintro e w1 ⟨rfl, hb1⟩
  have g1 : Bel (bx2 79 w x0 y0 x1 y1) w1 := hb1
  clear hb1
  go_wp2_with fail
  refine (specPointOk_any _ _ _).mono ?_
  rintro e w2 ⟨rfl, hb2⟩
  have g2 : Bel (bx2 79 w x0 y0 x1 y1) w2 := bel_step g1 hb2
  clear hb2 g1
  go_wp2_with fail
  refine (specAbs_any _ _ (by omega) (by omega)).mono ?_
  rintro e w3 ⟨rfl, rfl⟩
  go_wp2_with fail
  refine (specAbs_any _ _ (by omega) (by omega)).mono ?_
  rintro e w4 ⟨rfl, rfl⟩
  go_wp2
  go_ret
  exact ⟨rfl, bel_step (bx2_bel 79 w x0 y0 x1 y1) g2⟩

theorem specHead_7 (x0 y0 x1 y1 : Int) (w : World) (h0 : pok x0 y0 = true) (h1 : pok x1 y1 = true) (he : (x0 == x1) = false) (hA : 2 * ab (x1 - x0) ≤ 5 * ab (y1 - y0)) (hB : 2 * ab (y1 - y0) ≤ 5 * ab (x1 - x0)) (hs0 : 0 < x1 - x0) (hs1 : y1 - y0 < 0) :
    Calls Tryd.prog 64 #[pt x0 y0, pt x1 y1] w fun e w' => e = .returned (.int .i64 7) ∧ Bel w w' := by
  obtain ⟨a0, a1, a2, a3⟩ := pOk_iff.1 h0
  obtain ⟨b0, b1, b2, b3⟩ := pOk_iff.1 h1
  obtain ⟨p0, p1⟩ := ab_bd (n := x1 - x0) (by omega) (by omega)
  obtain ⟨q0, q1⟩ := ab_bd (n := y1 - y0) (by omega) (by omega)
  have hR := bx2_cells 79 w x0 y0 x1 y1
  go_enter Tryd.func64, Tryd.ntmps64
  go_wp2_with fail
  refine (specPointOk_any _ _ _).mono ?_
  rintro e w1 ⟨rfl, hb1⟩
  have g1 : Bel (bx2 79 w x0 y0 x1 y1) w1 := hb1
  clear hb1
  go_wp2_with fail
  refine (specPointOk_any _ _ _).mono ?_
  rintro e w2 ⟨rfl, hb2⟩
  have g2 : Bel (bx2 79 w x0 y0 x1 y1) w2 := bel_step g1 hb2
  clear hb2 g1
  go_wp2_with fail
  refine (specAbs_any _ _ (by omega) (by omega)).mono ?_
  rintro e w3 ⟨rfl, rfl⟩
  go_wp2_with fail
  refine (specAbs_any _ _ (by omega) (by omega)).mono ?_
  rintro e w4 ⟨rfl, rfl⟩
  go_wp2
  go_ret
  exact ⟨rfl, bel_step (bx2_bel 79 w x0 y0 x1 y1) g2⟩

theorem specHeadZ_0 (x0 y0 y1 : Int) (w : World) (h0 : pok x0 y0 = true) (h1 : pok x0 y1 = true) (he : (y0 == y1) = false) (hs0 : 0 < y1 - y0) :
    Calls Tryd.prog 64 #[pt x0 y0, pt x0 y1] w fun e w' => e = .returned (.int .i64 2) ∧ Bel w w' := by
  obtain ⟨a0, a1, a2, a3⟩ := pOk_iff.1 h0
  obtain ⟨b0, b1, b2, b3⟩ := pOk_iff.1 h1
  have z : ab 0 = 0 := rfl
  obtain ⟨q0, q1⟩ := ab_bd (n := y1 - y0) (by omega) (by omega)
  have q2 : 0 < ab (y1 - y0) := by unfold ab; omega
  have hR := bx2_cells 79 w x0 y0 x0 y1
  go_enter Tryd.func64, Tryd.ntmps64
  go_wp2_with fail
  refine (specPointOk_any _ _ _).mono ?_
  rintro e w1 ⟨rfl, hb1⟩
  have g1 : Bel (bx2 79 w x0 y0 x0 y1) w1 := hb1
  clear hb1
  go_wp2_with fail
  refine (specPointOk_any _ _ _).mono ?_
  rintro e w2 ⟨rfl, hb2⟩
  have g2 : Bel (bx2 79 w x0 y0 x0 y1) w2 := bel_step g1 hb2
  clear hb2 g1
  go_wp2_with fail
  refine (specAbs_any _ _ (by omega) (by omega)).mono ?_
  rintro e w3 ⟨rfl, rfl⟩
  go_wp2_with fail
  refine (specAbs_any _ _ (by omega) (by omega)).mono ?_
  rintro e w4 ⟨rfl, rfl⟩
  go_wp2
  go_ret
  exact ⟨rfl, bel_step (bx2_bel 79 w x0 y0 x0 y1) g2⟩

theorem specHeadZ_1 (x0 y0 y1 : Int) (w : World) (h0 : pok x0 y0 = true) (h1 : pok x0 y1 = true) (he : (y0 == y1) = false) (hs0 : y1 - y0 < 0) :
    Calls Tryd.prog 64 #[pt x0 y0, pt x0 y1] w fun e w' => e = .returned (.int .i64 6) ∧ Bel w w' := by
  obtain ⟨a0, a1, a2, a3⟩ := pOk_iff.1 h0
  obtain ⟨b0, b1, b2, b3⟩ := pOk_iff.1 h1
  have z : ab 0 = 0 := rfl
  obtain ⟨q0, q1⟩ := ab_bd (n := y1 - y0) (by omega) (by omega)
  have q2 : 0 < ab (y1 - y0) := by unfold ab; omega
  have hR := bx2_cells 79 w x0 y0 x0 y1
  go_enter Tryd.func64, Tryd.ntmps64
  go_wp2_with fail
  refine (specPointOk_any _ _ _).mono ?_
  rintro e w1 ⟨rfl, hb1⟩
  have g1 : Bel (bx2 79 w x0 y0 x0 y1) w1 := hb1
  clear hb1
  go_wp2_with fail
  refine (specPointOk_any _ _ _).mono ?_
  rintro e w2 ⟨rfl, hb2⟩
  have g2 : Bel (bx2 79 w x0 y0 x0 y1) w2 := bel_step g1 hb2
  clear hb2 g1
  go_wp2_with fail
  refine (specAbs_any _ _ (by omega) (by omega)).mono ?_
  rintro e w3 ⟨rfl, rfl⟩
  go_wp2_with fail
  refine (specAbs_any _ _ (by omega) (by omega)).mono ?_
  rintro e w4 ⟨rfl, rfl⟩
  go_wp2
  go_ret
  exact ⟨rfl, bel_step (bx2_bel 79 w x0 y0 x0 y1) g2⟩
end Go.Proofs.YtponmbjflablcaaDoor
