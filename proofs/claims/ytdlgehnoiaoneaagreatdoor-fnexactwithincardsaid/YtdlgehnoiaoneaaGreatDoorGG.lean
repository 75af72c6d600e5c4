/-
  Contracts of Heading, in the program and in its model: for every two points; the table of winds holds what the program's text lays.
  Contract of Heading, the program's own, in eight cases and two.
  Heading, in the program and in its model, for every two points.
-/
import Derived.Test.YtdlgehnoiaoneaaGreatDoorGA
import Derived.Deep.RegionHeld3
namespace Go.Proofs.YtdlgehnoiaoneaaGreatDoor
open Go.RowKit

structure POk (x y : Int) : Prop where
  x0 : -10000000 ≤ x
  x1 : x ≤ 10000000
  y0 : -10000000 ≤ y
  y1 : y ≤ 10000000
theorem pOk_iff {x y : Int} : pok x y = true ↔ POk x y := by
  simp only [pok, Bool.and_eq_true, cok_iff]
  exact ⟨fun ⟨⟨a, b⟩, c, d⟩ => ⟨a, b, c, d⟩, fun ⟨a, b, c, d⟩ => ⟨⟨a, b⟩, c, d⟩⟩
theorem minus_any (x0 y0 x1 y1 : Int) (w : World) (a : POk x0 y0) (b : POk x1 y1) :
    Calls Tryz.prog 67 #[pt x0 y0, pt x1 y1] w fun e w' => e = .returned (pt (x0 - x1) (y0 - y1)) ∧ Bel w w' := by
  obtain ⟨a0, a1, a2, a3⟩ := a
  obtain ⟨b0, b1, b2, b3⟩ := b
  go_enter Tryz.func67, Tryz.ntmps67
  go_wp2
  exact bodyPost_ret (v := pt (x0 - x1) (y0 - y1)) (by simp [results, Tryz.results67, go_sem]) rfl ⟨rfl, bel_alloc (bel_alloc (bel_alloc (Bel.refl _) _) _) _⟩
/-- The world in which 2 points lie boxed. -/
def bx2 (t : TypeId) (w : World) (x0 y0 x1 y1 : Int) : World := (w.alloc (.cells #[.int .i64 x0, .int .i64 y0] t)).alloc (.cells #[.int .i64 x1, .int .i64 y1] t)
theorem bx2_cells (t : TypeId) (w : World) (x0 y0 x1 y1 : Int) (w' : World) (h : Bel (bx2 t w x0 y0 x1 y1) w') :
    w'.cell? ⟨w.heap.size, 0, none⟩ = some (.int .i64 x0) ∧ w'.cell? ⟨w.heap.size, 1, none⟩ = some (.int .i64 y0) ∧ w'.cell? ⟨w.heap.size + 1, 0, none⟩ = some (.int .i64 x1) ∧ w'.cell? ⟨w.heap.size + 1, 1, none⟩ = some (.int .i64 y1) := by
  have hs : (bx2 t w x0 y0 x1 y1).heap.size = w.heap.size + 2 := by simp [bx2]
  refine ⟨?_, ?_, ?_, ?_⟩
  · rw [h.out.cell (by rw [hs]; show w.heap.size < _; omega)]; simp [bx2, go_sem]
  · rw [h.out.cell (by rw [hs]; show w.heap.size < _; omega)]; simp [bx2, go_sem]
  · rw [h.out.cell (by rw [hs]; show w.heap.size + 1 < _; omega)]; simp [bx2, go_sem]
  · rw [h.out.cell (by rw [hs]; show w.heap.size + 1 < _; omega)]; simp [bx2, go_sem]
theorem bx2_bel (t : TypeId) (w : World) (x0 y0 x1 y1 : Int) : Bel w (bx2 t w x0 y0 x1 y1) := bel_alloc (bel_alloc (Bel.refl _) _) _

theorem bel_cell {W w' : World} (h : Bel W w') {b o : Nat} {v : Value} (hb : b < W.heap.size) (hc : W.cell? ⟨b, o, none⟩ = some v) : w'.cell? ⟨b, o, none⟩ = some v := by
  rw [h.out.cell (p := ⟨b, o, none⟩) hb]; exact hc

/-- How far off, whatever the side. -/
def ab (n : Int) : Int := max n (-n)
theorem ab_pos {n : Int} (h : 0 ≤ n) : ab n = n := by unfold ab; omega
theorem ab_neg {n : Int} (h : n < 0) : ab n = -n := by unfold ab; omega
theorem ab_bd {n : Int} (h0 : -20000000 ≤ n) (h1 : n ≤ 20000000) : 0 ≤ ab n ∧ ab n ≤ 20000000 := by unfold ab; omega
theorem abs_any (n : Int) (w : World) (h0 : -20000000 ≤ n) (h1 : n ≤ 20000000) :
    Calls Tryz.prog 68 #[.int .i64 n] w fun e w' => e = .returned (.int .i64 (ab n)) ∧ w' = w := by
  unfold ab
  go_enter Tryz.func68, Tryz.ntmps68
  go_wp2
  go_ret
  exact ⟨rfl, rfl⟩
theorem specAbs_any (n : Int) (w : World) (h0 : -20000000 ≤ n) (h1 : n ≤ 20000000) :
    Calls Tryz.prog 63 #[.int .i64 n] w fun e w' => e = .returned (.int .i64 (ab n)) ∧ w' = w := by
  by_cases h : n < 0
  · rw [ab_neg h]
    go_enter Tryz.func63, Tryz.ntmps63
    go_wp2
    go_ret
    exact ⟨rfl, rfl⟩
  · rw [ab_pos (by omega)]
    go_enter Tryz.func63, Tryz.ntmps63
    go_wp2
    go_ret
    exact ⟨rfl, rfl⟩
/-- -1, 0, 1. -/
def sgn (n : Int) : Int := if 0 < n then 1 else if n < 0 then -1 else 0
theorem sgn_pos {n : Int} (h : 0 < n) : sgn n = 1 := by simp [sgn, h]
theorem sgn_neg {n : Int} (h : n < 0) : sgn n = -1 := by unfold sgn; rw [if_neg (by omega), if_pos h]
theorem sgn_zero {n : Int} (h : n = 0) : sgn n = 0 := by simp [sgn, h]
theorem sign_any (n : Int) (w : World) :
    Calls Tryz.prog 69 #[.int .i64 n] w fun e w' => e = .returned (.int .i64 (sgn n)) ∧ w' = w := by
  by_cases h1 : 0 < n
  · rw [sgn_pos h1]
    go_enter Tryz.func69, Tryz.ntmps69
    go_wp2
    go_ret
    exact ⟨rfl, rfl⟩
  · by_cases h2 : n < 0
    · rw [sgn_neg h2]
      go_enter Tryz.func69, Tryz.ntmps69
      go_wp2
      go_ret
      exact ⟨rfl, rfl⟩
    · rw [sgn_zero (by omega)]
      go_enter Tryz.func69, Tryz.ntmps69
      go_wp2
      go_ret
      exact ⟨rfl, rfl⟩

/-- The wind of a difference that is not nothing. -/
def wind (dx dy : Int) : Int :=
  if 5 * ab dy < 2 * ab dx then (if 0 < dx then 0 else 4)
  else if 5 * ab dx < 2 * ab dy then (if 0 < dy then 2 else 6)
  else if 0 < dx ∧ 0 < dy then 1 else if dx < 0 ∧ 0 < dy then 3 else if dx < 0 then 5 else 7
/-- Heading as both tell it. -/
def headOf (x0 y0 x1 y1 : Int) : Int := if pok x0 y0 && pok x1 y1 && !(decide (x0 = x1) && decide (y0 = y1)) then wind (x1 - x0) (y1 - y0) else -1

/-! ### Which wind it is, in eight cases -/
theorem wind_0 {x0 y0 x1 y1 : Int} (hA : 5 * ab (y1 - y0) < 2 * ab (x1 - x0)) (hs0 : 0 < x1 - x0) : wind (x1 - x0) (y1 - y0) = 0 := by
  unfold wind
  rw [if_pos hA]
  rw [if_pos hs0]
theorem wind_1 {x0 y0 x1 y1 : Int} (hA : 5 * ab (y1 - y0) < 2 * ab (x1 - x0)) (hs0 : x1 - x0 < 0) : wind (x1 - x0) (y1 - y0) = 4 := by
  unfold wind
  rw [if_pos hA]
  rw [if_neg (by omega)]
theorem wind_2 {x0 y0 x1 y1 : Int} (hA : 2 * ab (x1 - x0) ≤ 5 * ab (y1 - y0)) (hB : 5 * ab (x1 - x0) < 2 * ab (y1 - y0)) (hs0 : 0 < y1 - y0) : wind (x1 - x0) (y1 - y0) = 2 := by
  unfold wind
  rw [if_neg (by omega), if_pos hB]
  rw [if_pos hs0]
theorem wind_3 {x0 y0 x1 y1 : Int} (hA : 2 * ab (x1 - x0) ≤ 5 * ab (y1 - y0)) (hB : 5 * ab (x1 - x0) < 2 * ab (y1 - y0)) (hs0 : y1 - y0 < 0) : wind (x1 - x0) (y1 - y0) = 6 := by
  unfold wind
  rw [if_neg (by omega), if_pos hB]
  rw [if_neg (by omega)]
theorem wind_4 {x0 y0 x1 y1 : Int} (hA : 2 * ab (x1 - x0) ≤ 5 * ab (y1 - y0)) (hB : 2 * ab (y1 - y0) ≤ 5 * ab (x1 - x0)) (hs0 : 0 < x1 - x0) (hs1 : 0 < y1 - y0) : wind (x1 - x0) (y1 - y0) = 1 := by
  unfold wind
  rw [if_neg (by omega), if_neg (by omega)]
  rw [if_pos ⟨hs0, hs1⟩]
theorem wind_5 {x0 y0 x1 y1 : Int} (hA : 2 * ab (x1 - x0) ≤ 5 * ab (y1 - y0)) (hB : 2 * ab (y1 - y0) ≤ 5 * ab (x1 - x0)) (hs0 : x1 - x0 < 0) (hs1 : 0 < y1 - y0) : wind (x1 - x0) (y1 - y0) = 3 := by
  unfold wind
  rw [if_neg (by omega), if_neg (by omega)]
  rw [if_neg (by omega), if_pos ⟨hs0, hs1⟩]
theorem wind_6 {x0 y0 x1 y1 : Int} (hA : 2 * ab (x1 - x0) ≤ 5 * ab (y1 - y0)) (hB : 2 * ab (y1 - y0) ≤ 5 * ab (x1 - x0)) (hs0 : x1 - x0 < 0) (hs1 : y1 - y0 < 0) : wind (x1 - x0) (y1 - y0) = 5 := by
  unfold wind
  rw [if_neg (by omega), if_neg (by omega)]
  rw [if_neg (by omega), if_neg (by omega), if_pos hs0]
theorem wind_7 {x0 y0 x1 y1 : Int} (hA : 2 * ab (x1 - x0) ≤ 5 * ab (y1 - y0)) (hB : 2 * ab (y1 - y0) ≤ 5 * ab (x1 - x0)) (hs0 : 0 < x1 - x0) (hs1 : y1 - y0 < 0) : wind (x1 - x0) (y1 - y0) = 7 := by
  unfold wind
  rw [if_neg (by omega), if_neg (by omega)]
  rw [if_neg (by omega), if_neg (by omega), if_neg (by omega)]

theorem head_ok {x0 y0 x1 y1 : Int} (h0 : pok x0 y0 = true) (h1 : pok x1 y1 = true) (hne : ¬ (x0 = x1 ∧ y0 = y1)) : headOf x0 y0 x1 y1 = wind (x1 - x0) (y1 - y0) := by
  unfold headOf
  rw [h0, h1, if_pos]
  simp only [Bool.true_and, Bool.not_eq_true', Bool.and_eq_false_iff, decide_eq_false_iff_not]
  omega
theorem head_same {x y : Int} : headOf x y x y = -1 := by simp [headOf]
theorem head_not {x0 y0 x1 y1 : Int} (h : pok x0 y0 = false ∨ pok x1 y1 = false) : headOf x0 y0 x1 y1 = -1 := by
  rcases h with h | h <;> simp [headOf, h]

theorem specHead_0 (x0 y0 x1 y1 : Int) (w : World) (h0 : pok x0 y0 = true) (h1 : pok x1 y1 = true) (he : (x0 == x1) = false) (hA : 5 * ab (y1 - y0) < 2 * ab (x1 - x0)) (hs0 : 0 < x1 - x0) :
    Calls Tryz.prog 52 #[pt x0 y0, pt x1 y1] w fun e w' => e = .returned (.int .i64 0) ∧ Bel w w' := by
  obtain ⟨a0, a1, a2, a3⟩ := pOk_iff.1 h0
  obtain ⟨b0, b1, b2, b3⟩ := pOk_iff.1 h1
  obtain ⟨p0, p1⟩ := ab_bd (n := x1 - x0) (by omega) (by omega)
  obtain ⟨q0, q1⟩ := ab_bd (n := y1 - y0) (by omega) (by omega)
  have hR := bx2_cells 66 w x0 y0 x1 y1
  go_enter Tryz.func52, Tryz.ntmps52
  go_wp2_with fail
  refine (specPointOk_any _ _ _).mono ?_
  rintro e w1 ⟨rfl, hb1⟩
  have g1 : Bel (bx2 66 w x0 y0 x1 y1) w1 := hb1
  clear hb1
  go_wp2_with fail
  refine (specPointOk_any _ _ _).mono ?_
  rintro e w2 ⟨rfl, hb2⟩
  have g2 : Bel (bx2 66 w x0 y0 x1 y1) w2 := bel_step g1 hb2
  clear hb2 g1
  go_wp2_with fail
  refine (specAbs_any _ _ (by omega) (by omega)).mono ?_
  rintro e w3 ⟨rfl, rfl⟩
  go_wp2_with fail
  refine (specAbs_any _ _ (by omega) (by omega)).mono ?_
  rintro e w4 ⟨rfl, rfl⟩
  go_wp2
  go_ret
  exact ⟨rfl, bel_step (bx2_bel 66 w x0 y0 x1 y1) g2⟩

theorem specHead_1 (x0 y0 x1 y1 : Int) (w : World) (h0 : pok x0 y0 = true) (h1 : pok x1 y1 = true) (he : (x0 == x1) = false) (hA : 5 * ab (y1 - y0) < 2 * ab (x1 - x0)) (hs0 : x1 - x0 < 0) :
    Calls Tryz.prog 52 #[pt x0 y0, pt x1 y1] w fun e w' => e = .returned (.int .i64 4) ∧ Bel w w' := by
  obtain ⟨a0, a1, a2, a3⟩ := pOk_iff.1 h0
  obtain ⟨b0, b1, b2, b3⟩ := pOk_iff.1 h1
  obtain ⟨p0, p1⟩ := ab_bd (n := x1 - x0) (by omega) (by omega)
  obtain ⟨q0, q1⟩ := ab_bd (n := y1 - y0) (by omega) (by omega)
  have hR := bx2_cells 66 w x0 y0 x1 y1
  go_enter Tryz.func52, Tryz.ntmps52
  go_wp2_with fail
  refine (specPointOk_any _ _ _).mono ?_
  rintro e w1 ⟨rfl, hb1⟩
  have g1 : Bel (bx2 66 w x0 y0 x1 y1) w1 := hb1
  clear hb1
  go_wp2_with fail
  refine (specPointOk_any _ _ _).mono ?_
  rintro e w2 ⟨rfl, hb2⟩
  have g2 : Bel (bx2 66 w x0 y0 x1 y1) w2 := bel_step g1 hb2
  clear hb2 g1
  go_wp2_with fail
  refine (specAbs_any _ _ (by omega) (by omega)).mono ?_
  rintro e w3 ⟨rfl, rfl⟩
  go_wp2_with fail
  refine (specAbs_any _ _ (by omega) (by omega)).mono ?_
  rintro e w4 ⟨rfl, rfl⟩
  go_wp2
  go_ret
  exact ⟨rfl, bel_step (bx2_bel 66 w x0 y0 x1 y1) g2⟩

theorem specHead_2 (x0 y0 x1 y1 : Int) (w : World) (h0 : pok x0 y0 = true) (h1 : pok x1 y1 = true) (he : (x0 == x1) = false) (hA : 2 * ab (x1 - x0) ≤ 5 * ab (y1 - y0)) (hB : 5 * ab (x1 - x0) < 2 * ab (y1 - y0)) (hs0 : 0 < y1 - y0) :
    Calls Tryz.prog 52 #[pt x0 y0, pt x1 y1] w fun e w' => e = .returned (.int .i64 2) ∧ Bel w w' := by
  obtain ⟨a0, a1, a2, a3⟩ := pOk_iff.1 h0
  obtain ⟨b0, b1, b2, b3⟩ := pOk_iff.1 h1
  obtain ⟨p0, p1⟩ := ab_bd (n := x1 - x0) (by omega) (by omega)
  obtain ⟨q0, q1⟩ := ab_bd (n := y1 - y0) (by omega) (by omega)
  have hR := bx2_cells 66 w x0 y0 x1 y1
  go_enter Tryz.func52, Tryz.ntmps52
  go_wp2_with fail
  refine (specPointOk_any _ _ _).mono ?_
  rintro e w1 ⟨rfl, hb1⟩
  have g1 : Bel (bx2 66 w x0 y0 x1 y1) w1 := hb1
  clear hb1
  go_wp2_with fail
  refine (specPointOk_any _ _ _).mono ?_
  rintro e w2 ⟨rfl, hb2⟩
  have g2 : Bel (bx2 66 w x0 y0 x1 y1) w2 := bel_step g1 hb2
  clear hb2 g1
  go_wp2_with fail
  refine (specAbs_any _ _ (by omega) (by omega)).mono ?_
  rintro e w3 ⟨rfl, rfl⟩
  go_wp2_with fail
  refine (specAbs_any _ _ (by omega) (by omega)).mono ?_
  rintro e w4 ⟨rfl, rfl⟩
  go_wp2
  go_ret
  exact ⟨rfl, bel_step (bx2_bel 66 w x0 y0 x1 y1) g2⟩

theorem specHead_3 (x0 y0 x1 y1 : Int) (w : World) (h0 : pok x0 y0 = true) (h1 : pok x1 y1 = true) (he : (x0 == x1) = false) (hA : 2 * ab (x1 - x0) ≤ 5 * ab (y1 - y0)) (hB : 5 * ab (x1 - x0) < 2 * ab (y1 - y0)) (hs0 : y1 - y0 < 0) :
    Calls Tryz.prog 52 #[pt x0 y0, pt x1 y1] w fun e w' => e = .returned (.int .i64 6) ∧ Bel w w' := by
  obtain ⟨a0, a1, a2, a3⟩ := pOk_iff.1 h0
  obtain ⟨b0, b1, b2, b3⟩ := pOk_iff.1 h1
  obtain ⟨p0, p1⟩ := ab_bd (n := x1 - x0) (by omega) (by omega)
  obtain ⟨q0, q1⟩ := ab_bd (n := y1 - y0) (by omega) (by omega)
  have hR := bx2_cells 66 w x0 y0 x1 y1
  go_enter Tryz.func52, Tryz.ntmps52
  go_wp2_with fail
  refine (specPointOk_any _ _ _).mono ?_
  rintro e w1 ⟨rfl, hb1⟩
  have g1 : Bel (bx2 66 w x0 y0 x1 y1) w1 := hb1
  clear hb1
  go_wp2_with fail
  refine (specPointOk_any _ _ _).mono ?_
  rintro e w2 ⟨rfl, hb2⟩
  have g2 : Bel (bx2 66 w x0 y0 x1 y1) w2 := bel_step g1 hb2
  clear hb2 g1
  go_wp2_with fail
  refine (specAbs_any _ _ (by omega) (by omega)).mono ?_
  rintro e w3 ⟨rfl, rfl⟩
  go_wp2_with fail
  refine (specAbs_any _ _ (by omega) (by omega)).mono ?_
  rintro e w4 ⟨rfl, rfl⟩
  go_wp2
  go_ret
  exact ⟨rfl, bel_step (bx2_bel 66 w x0 y0 x1 y1) g2⟩

theorem specHead_4 (x0 y0 x1 y1 : Int) (w : World) (h0 : pok x0 y0 = true) (h1 : pok x1 y1 = true) (he : (x0 == x1) = false) (hA : 2 * ab (x1 - x0) ≤ 5 * ab (y1 - y0)) (hB : 2 * ab (y1 - y0) ≤ 5 * ab (x1 - x0)) (hs0 : 0 < x1 - x0) (hs1 : 0 < y1 - y0) :
    Calls Tryz.prog 52 #[pt x0 y0, pt x1 y1] w fun e w' => e = .returned (.int .i64 1) ∧ Bel w w' := by
  obtain ⟨a0, a1, a2, a3⟩ := pOk_iff.1 h0
  obtain ⟨b0, b1, b2, b3⟩ := pOk_iff.1 h1
  obtain ⟨p0, p1⟩ := ab_bd (n := x1 - x0) (by omega) (by omega)
  obtain ⟨q0, q1⟩ := ab_bd (n := y1 - y0) (by omega) (by omega)
  have hR := bx2_cells 66 w x0 y0 x1 y1
  go_enter Tryz.func52, Tryz.ntmps52
  go_wp2_with fail
  refine (specPointOk_any _ _ _).mono ?_
  rintro e w1 ⟨rfl, hb1⟩
  have g1 : Bel (bx2 66 w x0 y0 x1 y1) w1 := hb1
  clear hb1
  go_wp2_with fail
  refine (specPointOk_any _ _ _).mono ?_
  rintro e w2 ⟨rfl, hb2⟩
  have g2 : Bel (bx2 66 w x0 y0 x1 y1) w2 := bel_step g1 hb2
  clear hb2 g1
  go_wp2_with fail
  refine (specAbs_any _ _ (by omega) (by omega)).mono ?_
  rintro e w3 ⟨rfl, rfl⟩
  go_wp2_with fail
  refine (specAbs_any _ _ (by omega) (by omega)).mono ?_
  rintro e w4 ⟨rfl, rfl⟩
  go_wp2
  go_ret
  exact ⟨rfl, bel_step (bx2_bel 66 w x0 y0 x1 y1) g2⟩

theorem specHead_5 (x0 y0 x1 y1 : Int) (w : World) (h0 : pok x0 y0 = true) (h1 : pok x1 y1 = true) (he : (x0 == x1) = false) (hA : 2 * ab (x1 - x0) ≤ 5 * ab (y1 - y0)) (hB : 2 * ab (y1 - y0) ≤ 5 * ab (x1 - x0)) (hs0 : x1 - x0 < 0) (hs1 : 0 < y1 - y0) :
    Calls Tryz.prog 52 #[pt x0 y0, pt x1 y1] w fun e w' => e = .returned (.int .i64 3) ∧ Bel w w' := by
  obtain ⟨a0, a1, a2, a3⟩ := pOk_iff.1 h0
  obtain ⟨b0, b1, b2, b3⟩ := pOk_iff.1 h1
  obtain ⟨p0, p1⟩ := ab_bd (n := x1 - x0) (by omega) (by omega)
  obtain ⟨q0, q1⟩ := ab_bd (n := y1 - y0) (by omega) (by omega)
  have hR := bx2_cells 66 w x0 y0 x1 y1
  go_enter Tryz.func52, Tryz.ntmps52
  go_wp2_with fail
  refine (specPointOk_any _ _ _).mono ?_
  rintro e w1 ⟨rfl, hb1⟩
  have g1 : Bel (bx2 66 w x0 y0 x1 y1) w1 := hb1
  clear hb1
  go_wp2_with fail
  refine (specPointOk_any _ _ _).mono ?_
  rintro e w2 ⟨rfl, hb2⟩
  have g2 : Bel (bx2 66 w x0 y0 x1 y1) w2 := bel_step g1 hb2
  clear hb2 g1
  go_wp2_with fail
  refine (specAbs_any _ _ (by omega) (by omega)).mono ?_
  rintro e w3 ⟨rfl, rfl⟩
  go_wp2_with fail
  refine (specAbs_any _ _ (by omega) (by omega)).mono ?_
  rintro e w4 ⟨rfl, rfl⟩
  go_wp2
  go_ret
  exact ⟨rfl, bel_step (bx2_bel 66 w x0 y0 x1 y1) g2⟩

theorem specHead_6 (x0 y0 x1 y1 : Int) (w : World) (h0 : pok x0 y0 = true) (h1 : pok x1 y1 = true) (he : (x0 == x1) = false) (hA : 2 * ab (x1 - x0) ≤ 5 * ab (y1 - y0)) (hB : 2 * ab (y1 - y0) ≤ 5 * ab (x1 - x0)) (hs0 : x1 - x0 < 0) (hs1 : y1 - y0 < 0) :
    Calls Tryz.prog 52 #[pt x0 y0, pt x1 y1] w fun e w' => e = .returned (.int .i64 5) ∧ Bel w w' := by
  obtain ⟨a0, a1, a2, a3⟩ := pOk_iff.1 h0
  obtain ⟨b0, b1, b2, b3⟩ := pOk_iff.1 h1
  obtain ⟨p0, p1⟩ := ab_bd (n := x1 - x0) (by omega) (by omega)
  obtain ⟨q0, q1⟩ := ab_bd (n := y1 - y0) (by omega) (by omega)
  have hR := bx2_cells 66 w x0 y0 x1 y1
  go_enter Tryz.func52, Tryz.ntmps52
  go_wp2_with fail
  refine (specPointOk_any _ _ _).mono ?_
  rintro e w1 ⟨rfl, hb1⟩
  have g1 : Bel (bx2 66 w x0 y0 x1 y1) w1 := hb1
  clear hb1
  go_wp2_with fail
  refine (specPointOk_any _ _ _).mono ?_
  rintro e w2 ⟨rfl, hb2⟩
  have g2 : Bel (bx2 66 w x0 y0 x1 y1) w2 := bel_step g1 hb2
  clear hb2 g1
  go_wp2_with fail
  refine (specAbs_any _ _ (by omega) (by omega)).mono ?_
  rintro e w3 ⟨rfl, rfl⟩
  go_wp2_with fail
  refine (specAbs_any _ _ (by omega) (by omega)).mono ?_
  rintro e w4 ⟨rfl, rfl⟩
  go_wp2
  go_ret
  exact ⟨rfl, bel_step (bx2_bel 66 w x0 y0 x1 y1) g2⟩

theorem specHead_7 (x0 y0 x1 y1 : Int) (w : World) (h0 : pok x0 y0 = true) (h1 : pok x1 y1 = true) (he : (x0 == x1) = false) (hA : 2 * ab (x1 - x0) ≤ 5 * ab (y1 - y0)) (hB : 2 * ab (y1 - y0) ≤ 5 * ab (x1 - x0)) (hs0 : 0 < x1 - x0) (hs1 : y1 - y0 < 0) :
    Calls Tryz.prog 52 #[pt x0 y0, pt x1 y1] w fun e w' => e = .returned (.int .i64 7) ∧ Bel w w' := by
  obtain ⟨a0, a1, a2, a3⟩ := pOk_iff.1 h0
  obtain ⟨b0, b1, b2, b3⟩ := pOk_iff.1 h1
  obtain ⟨p0, p1⟩ := ab_bd (n := x1 - x0) (by omega) (by omega)
  obtain ⟨q0, q1⟩ := ab_bd (n := y1 - y0) (by omega) (by omega)
  have hR := bx2_cells 66 w x0 y0 x1 y1
  go_enter Tryz.func52, Tryz.ntmps52
  go_wp2_with fail
  refine (specPointOk_any _ _ _).mono ?_
  rintro e w1 ⟨rfl, hb1⟩
  have g1 : Bel (bx2 66 w x0 y0 x1 y1) w1 := hb1
  clear hb1
  go_wp2_with fail
  refine (specPointOk_any _ _ _).mono ?_
  rintro e w2 ⟨rfl, hb2⟩
  have g2 : Bel (bx2 66 w x0 y0 x1 y1) w2 := bel_step g1 hb2
  clear hb2 g1
  go_wp2_with fail
  refine (specAbs_any _ _ (by omega) (by omega)).mono ?_
  rintro e w3 ⟨rfl, rfl⟩
  go_wp2_with fail
  refine (specAbs_any _ _ (by omega) (by omega)).mono ?_
  rintro e w4 ⟨rfl, rfl⟩
  go_wp2
  go_ret
  exact ⟨rfl, bel_step (bx2_bel 66 w x0 y0 x1 y1) g2⟩

theorem specHeadZ_0 (x0 y0 y1 : Int) (w : World) (h0 : pok x0 y0 = true) (h1 : pok x0 y1 = true) (he : (y0 == y1) = false) (hs0 : 0 < y1 - y0) :
    Calls Tryz.prog 52 #[pt x0 y0, pt x0 y1] w fun e w' => e = .returned (.int .i64 2) ∧ Bel w w' := by
  obtain ⟨a0, a1, a2, a3⟩ := pOk_iff.1 h0
  obtain ⟨b0, b1, b2, b3⟩ := pOk_iff.1 h1
  have z : ab 0 = 0 := rfl
  obtain ⟨q0, q1⟩ := ab_bd (n := y1 - y0) (by omega) (by omega)
  have q2 : 0 < ab (y1 - y0) := by unfold ab; omega
  have hR := bx2_cells 66 w x0 y0 x0 y1
  go_enter Tryz.func52, Tryz.ntmps52
  go_wp2_with fail
  refine (specPointOk_any _ _ _).mono ?_
  rintro e w1 ⟨rfl, hb1⟩
  have g1 : Bel (bx2 66 w x0 y0 x0 y1) w1 := hb1
  clear hb1
  go_wp2_with fail
  refine (specPointOk_any _ _ _).mono ?_
  rintro e w2 ⟨rfl, hb2⟩
  have g2 : Bel (bx2 66 w x0 y0 x0 y1) w2 := bel_step g1 hb2
  clear hb2 g1
  go_wp2_with fail
  refine (specAbs_any _ _ (by omega) (by omega)).mono ?_
  rintro e w3 ⟨rfl, rfl⟩
  go_wp2_with fail
  refine (specAbs_any _ _ (by omega) (by omega)).mono ?_
  rintro e w4 ⟨rfl, rfl⟩
  go_wp2
  go_ret
  exact ⟨rfl, bel_step (bx2_bel 66 w x0 y0 x0 y1) g2⟩

theorem specHeadZ_1 (x0 y0 y1 : Int) (w : World) (h0 : pok x0 y0 = true) (h1 : pok x0 y1 = true) (he : (y0 == y1) = false) (hs0 : y1 - y0 < 0) :
    Calls Tryz.prog 52 #[pt x0 y0, pt x0 y1] w fun e w' => e = .returned (.int .i64 6) ∧ Bel w w' := by
  obtain ⟨a0, a1, a2, a3⟩ := pOk_iff.1 h0
  obtain ⟨b0, b1, b2, b3⟩ := pOk_iff.1 h1
  have z : ab 0 = 0 := rfl
  obtain ⟨q0, q1⟩ := ab_bd (n := y1 - y0) (by omega) (by omega)
  have q2 : 0 < ab (y1 - y0) := by unfold ab; omega
  have hR := bx2_cells 66 w x0 y0 x0 y1
  go_enter Tryz.func52, Tryz.ntmps52
  go_wp2_with fail
  refine (specPointOk_any _ _ _).mono ?_
  rintro e w1 ⟨rfl, hb1⟩
  have g1 : Bel (bx2 66 w x0 y0 x0 y1) w1 := hb1
  clear hb1
  go_wp2_with fail
  refine (specPointOk_any _ _ _).mono ?_
  rintro e w2 ⟨rfl, hb2⟩
  have g2 : Bel (bx2 66 w x0 y0 x0 y1) w2 := bel_step g1 hb2
  clear hb2 g1
  go_wp2_with fail
  refine (specAbs_any _ _ (by omega) (by omega)).mono ?_
  rintro e w3 ⟨rfl, rfl⟩
  go_wp2_with fail
  refine (specAbs_any _ _ (by omega) (by omega)).mono ?_
  rintro e w4 ⟨rfl, rfl⟩
  go_wp2
  go_ret
  exact ⟨rfl, bel_step (bx2_bel 66 w x0 y0 x0 y1) g2⟩
end Go.Proofs.YtdlgehnoiaoneaaGreatDoor

namespace Go.Proofs.YtdlgehnoiaoneaaGreatDoor
open Go.RowKit

/-- The table of winds lies as the program's text lays it. -/
def Winds (w : World) : Prop := 0 < w.heap.size ∧ w.cell? ⟨0, 0, none⟩ = some (.int .i64 5) ∧ w.cell? ⟨0, 1, none⟩ = some (.int .i64 6) ∧ w.cell? ⟨0, 2, none⟩ = some (.int .i64 7) ∧ w.cell? ⟨0, 3, none⟩ = some (.int .i64 4) ∧ w.cell? ⟨0, 4, none⟩ = some (.int .i64 (-1)) ∧ w.cell? ⟨0, 5, none⟩ = some (.int .i64 0) ∧ w.cell? ⟨0, 6, none⟩ = some (.int .i64 3) ∧ w.cell? ⟨0, 7, none⟩ = some (.int .i64 2) ∧ w.cell? ⟨0, 8, none⟩ = some (.int .i64 1)
theorem Winds.bel {w w' : World} (h : Winds w) (hb : Bel w w') : Winds w' := by
  obtain ⟨h0, c0, c1, c2, c3, c4, c5, c6, c7, c8⟩ := h
  exact ⟨bel_lt hb h0, bel_cell hb h0 c0, bel_cell hb h0 c1, bel_cell hb h0 c2, bel_cell hb h0 c3, bel_cell hb h0 c4, bel_cell hb h0 c5, bel_cell hb h0 c6, bel_cell hb h0 c7, bel_cell hb h0 c8⟩
theorem sgn0 : sgn 0 = 0 := by decide
/-- The world in which the difference lies boxed. -/
def uAt (w : World) (a b : Int) : World := w.alloc (.cells #[.int .i64 a, .int .i64 b] 66)
theorem uAt_cells {w w' : World} {a b : Int} (h : Bel (uAt w a b) w') : w'.cell? ⟨w.heap.size, 0, none⟩ = some (.int .i64 a) ∧ w'.cell? ⟨w.heap.size, 1, none⟩ = some (.int .i64 b) :=
  ⟨bel_cell h (by simp [uAt]) (by simp [uAt, go_sem]), bel_cell h (by simp [uAt]) (by simp [uAt, go_sem])⟩
theorem uAt_winds {w w' : World} {a b : Int} (ht : Winds w) (h : Bel (uAt w a b) w') : Winds w' := ht.bel (bel_step (bel_alloc (Bel.refl _) _) h)

set_option maxHeartbeats 2000000 in
theorem head_0 (x0 y0 x1 y1 : Int) (w : World) (hT : Winds w) (h0 : pok x0 y0 = true) (h1 : pok x1 y1 = true) (he : (x0 == x1) = false) (hA : 5 * ab (y1 - y0) < 2 * ab (x1 - x0)) (hs0 : 0 < x1 - x0) :
    Calls Tryz.prog 55 #[pt x0 y0, pt x1 y1] w fun e w' => e = .returned (.int .i64 0) ∧ Bel w w' := by
  obtain ⟨a0, a1, a2, a3⟩ := pOk_iff.1 h0
  obtain ⟨b0, b1, b2, b3⟩ := pOk_iff.1 h1
  have pa := pOk_iff.1 h0
  have pb := pOk_iff.1 h1
  obtain ⟨p0, p1⟩ := ab_bd (n := x1 - x0) (by omega) (by omega)
  obtain ⟨q0, q1⟩ := ab_bd (n := y1 - y0) (by omega) (by omega)
  have sx : sgn (x1 - x0) = 1 := sgn_pos (by omega)
  have s0 := sgn0
  have hR := bx2_cells 66 w x0 y0 x1 y1
  go_enter Tryz.func55, Tryz.ntmps55
  go_wp2_with fail
  refine (pointOk_any _ _ _).mono ?_
  rintro e w1 ⟨rfl, hb1⟩
  have g1 : Bel (bx2 66 w x0 y0 x1 y1) w1 := hb1
  clear hb1
  go_wp2_with fail
  refine (pointOk_any _ _ _).mono ?_
  rintro e w2 ⟨rfl, hb2⟩
  have g2 : Bel (bx2 66 w x0 y0 x1 y1) w2 := bel_step g1 hb2
  clear hb2 g1
  go_wp2_with fail
  refine (minus_any _ _ _ _ _ pb pa).mono ?_
  rintro e w3 ⟨rfl, hb3⟩
  have g3 : Bel w w3 := bel_step (bel_step (bx2_bel 66 w x0 y0 x1 y1) g2) hb3
  have ht : Winds w3 := hT.bel g3
  have hR1 : ∀ w', Bel (uAt w3 (x1 - x0) (y1 - y0)) w' → w'.cell? ⟨w3.heap.size, 0, none⟩ = some (.int .i64 (x1 - x0)) ∧ w'.cell? ⟨w3.heap.size, 1, none⟩ = some (.int .i64 (y1 - y0)) :=
    fun w' h => uAt_cells h
  have hR2 : ∀ w', Bel (uAt w3 (x1 - x0) (0)) w' → w'.cell? ⟨w3.heap.size, 0, none⟩ = some (.int .i64 (x1 - x0)) ∧ w'.cell? ⟨w3.heap.size, 1, none⟩ = some (.int .i64 0) ∧ w'.cell? ⟨0, 5, none⟩ = some (.int .i64 0) :=
    fun w' h => ⟨(uAt_cells h).1, (uAt_cells h).2, (uAt_winds ht h).2.2.2.2.2.2.1⟩
  have k1 : Bel (uAt w3 (x1 - x0) (y1 - y0)) (uAt w3 (x1 - x0) (y1 - y0)) := Bel.refl _
  have k2 : Bel (uAt w3 (x1 - x0) (0)) (uAt w3 (x1 - x0) (0)) := Bel.refl _
  have HT : Hid (Winds w3) := ht
  clear g2 hb3 hR ht
  go_wp2
  go_region_held3 (fun w' => Bel (uAt w3 (x1 - x0) (y1 - y0)) w') (repeat (first | exact k1 | refine Bel.drew ?_ | assumption))
    (first
      | (go_at_call 68; refine (abs_any _ _ (by omega) (by omega)).mono ?_; rintro e w' ⟨rfl, rfl⟩))
  go_wp2
  refine wp_region_noPanic ?_
  refine wp_region_held_drew (S := fun w' => Bel (uAt w3 (x1 - x0) (0)) w') (by kernel_rfl) (Bel.drew (Bel.drew k2)) (fun hHeld => ?_)
  refine tk 0 hHeld ?_; refine tk 1 hHeld ?_; refine tk 4 hHeld ?_; refine tk 5 hHeld ?_
  refine rd1 2 (fun K hK => ?_)
  go_simp
  refine (sign_any _ _).mono ?_
  rintro e w' ⟨rfl, rfl⟩
  go_wp2_with fail
  refine hK.out _ _ (hHeld) (fun hHeld' => ?_)
  clear hK K hHeld
  have hHeld := hHeld'
  clear hHeld'
  try simp only [Act.put, List.setIfInBounds_toArray, List.set_cons_zero, List.set_cons_succ]
  refine tk 3 hHeld ?_; refine tkv 8 (.pointer (some ⟨0, 3, none⟩)) hHeld ?_
  refine rd1 6 (fun K hK => ?_)
  go_simp
  refine (sign_any _ _).mono ?_
  rintro e w' ⟨rfl, rfl⟩
  go_wp2_with fail
  refine hK.out _ _ (hHeld) (fun hHeld' => ?_)
  clear hK K hHeld
  have hHeld := hHeld'
  clear hHeld'
  try simp only [Act.put, List.setIfInBounds_toArray, List.set_cons_zero, List.set_cons_succ]
  refine tk 7 hHeld ?_; refine tkv 9 (.pointer (some ⟨0, 5, none⟩)) hHeld ?_; refine tk 10 hHeld ?_; refine tk 11 hHeld ?_
  refine wpAnyH_done (by kernel_rfl) ?_ _
  refine NoPanic.normal ?_
  go_wp2
  go_ret
  exact ⟨rfl, Bel.drew (Bel.drew (bel_alloc g3 _))⟩

set_option maxHeartbeats 2000000 in
theorem head_1 (x0 y0 x1 y1 : Int) (w : World) (hT : Winds w) (h0 : pok x0 y0 = true) (h1 : pok x1 y1 = true) (he : (x0 == x1) = false) (hA : 5 * ab (y1 - y0) < 2 * ab (x1 - x0)) (hs0 : x1 - x0 < 0) :
    Calls Tryz.prog 55 #[pt x0 y0, pt x1 y1] w fun e w' => e = .returned (.int .i64 4) ∧ Bel w w' := by
  obtain ⟨a0, a1, a2, a3⟩ := pOk_iff.1 h0
  obtain ⟨b0, b1, b2, b3⟩ := pOk_iff.1 h1
  have pa := pOk_iff.1 h0
  have pb := pOk_iff.1 h1
  obtain ⟨p0, p1⟩ := ab_bd (n := x1 - x0) (by omega) (by omega)
  obtain ⟨q0, q1⟩ := ab_bd (n := y1 - y0) (by omega) (by omega)
  have sx : sgn (x1 - x0) = -1 := sgn_neg (by omega)
  have s0 := sgn0
  have hR := bx2_cells 66 w x0 y0 x1 y1
  go_enter Tryz.func55, Tryz.ntmps55
  go_wp2_with fail
  refine (pointOk_any _ _ _).mono ?_
  rintro e w1 ⟨rfl, hb1⟩
  have g1 : Bel (bx2 66 w x0 y0 x1 y1) w1 := hb1
  clear hb1
  go_wp2_with fail
  refine (pointOk_any _ _ _).mono ?_
  rintro e w2 ⟨rfl, hb2⟩
  have g2 : Bel (bx2 66 w x0 y0 x1 y1) w2 := bel_step g1 hb2
  clear hb2 g1
  go_wp2_with fail
  refine (minus_any _ _ _ _ _ pb pa).mono ?_
  rintro e w3 ⟨rfl, hb3⟩
  have g3 : Bel w w3 := bel_step (bel_step (bx2_bel 66 w x0 y0 x1 y1) g2) hb3
  have ht : Winds w3 := hT.bel g3
  have hR1 : ∀ w', Bel (uAt w3 (x1 - x0) (y1 - y0)) w' → w'.cell? ⟨w3.heap.size, 0, none⟩ = some (.int .i64 (x1 - x0)) ∧ w'.cell? ⟨w3.heap.size, 1, none⟩ = some (.int .i64 (y1 - y0)) :=
    fun w' h => uAt_cells h
  have hR2 : ∀ w', Bel (uAt w3 (x1 - x0) (0)) w' → w'.cell? ⟨w3.heap.size, 0, none⟩ = some (.int .i64 (x1 - x0)) ∧ w'.cell? ⟨w3.heap.size, 1, none⟩ = some (.int .i64 0) ∧ w'.cell? ⟨0, 3, none⟩ = some (.int .i64 4) :=
    fun w' h => ⟨(uAt_cells h).1, (uAt_cells h).2, (uAt_winds ht h).2.2.2.2.1⟩
  have k1 : Bel (uAt w3 (x1 - x0) (y1 - y0)) (uAt w3 (x1 - x0) (y1 - y0)) := Bel.refl _
  have k2 : Bel (uAt w3 (x1 - x0) (0)) (uAt w3 (x1 - x0) (0)) := Bel.refl _
  have HT : Hid (Winds w3) := ht
  clear g2 hb3 hR ht
  go_wp2
  go_region_held3 (fun w' => Bel (uAt w3 (x1 - x0) (y1 - y0)) w') (repeat (first | exact k1 | refine Bel.drew ?_ | assumption))
    (first
      | (go_at_call 68; refine (abs_any _ _ (by omega) (by omega)).mono ?_; rintro e w' ⟨rfl, rfl⟩))
  go_wp2
  refine wp_region_noPanic ?_
  refine wp_region_held_drew (S := fun w' => Bel (uAt w3 (x1 - x0) (0)) w') (by kernel_rfl) (Bel.drew (Bel.drew k2)) (fun hHeld => ?_)
  refine tk 0 hHeld ?_; refine tk 1 hHeld ?_; refine tk 4 hHeld ?_; refine tk 5 hHeld ?_
  refine rd1 2 (fun K hK => ?_)
  go_simp
  refine (sign_any _ _).mono ?_
  rintro e w' ⟨rfl, rfl⟩
  go_wp2_with fail
  refine hK.out _ _ (hHeld) (fun hHeld' => ?_)
  clear hK K hHeld
  have hHeld := hHeld'
  clear hHeld'
  try simp only [Act.put, List.setIfInBounds_toArray, List.set_cons_zero, List.set_cons_succ]
  refine tk 3 hHeld ?_; refine tkv 8 (.pointer (some ⟨0, 3, none⟩)) hHeld ?_
  refine rd1 6 (fun K hK => ?_)
  go_simp
  refine (sign_any _ _).mono ?_
  rintro e w' ⟨rfl, rfl⟩
  go_wp2_with fail
  refine hK.out _ _ (hHeld) (fun hHeld' => ?_)
  clear hK K hHeld
  have hHeld := hHeld'
  clear hHeld'
  try simp only [Act.put, List.setIfInBounds_toArray, List.set_cons_zero, List.set_cons_succ]
  refine tk 7 hHeld ?_; refine tkv 9 (.pointer (some ⟨0, 3, none⟩)) hHeld ?_; refine tk 10 hHeld ?_; refine tk 11 hHeld ?_
  refine wpAnyH_done (by kernel_rfl) ?_ _
  refine NoPanic.normal ?_
  go_wp2
  go_ret
  exact ⟨rfl, Bel.drew (Bel.drew (bel_alloc g3 _))⟩

set_option maxHeartbeats 2000000 in
theorem head_2 (x0 y0 x1 y1 : Int) (w : World) (hT : Winds w) (h0 : pok x0 y0 = true) (h1 : pok x1 y1 = true) (he : (x0 == x1) = false) (hA : 2 * ab (x1 - x0) ≤ 5 * ab (y1 - y0)) (hB : 5 * ab (x1 - x0) < 2 * ab (y1 - y0)) (hs0 : 0 < y1 - y0) :
    Calls Tryz.prog 55 #[pt x0 y0, pt x1 y1] w fun e w' => e = .returned (.int .i64 2) ∧ Bel w w' := by
  obtain ⟨a0, a1, a2, a3⟩ := pOk_iff.1 h0
  obtain ⟨b0, b1, b2, b3⟩ := pOk_iff.1 h1
  have pa := pOk_iff.1 h0
  have pb := pOk_iff.1 h1
  obtain ⟨p0, p1⟩ := ab_bd (n := x1 - x0) (by omega) (by omega)
  obtain ⟨q0, q1⟩ := ab_bd (n := y1 - y0) (by omega) (by omega)
  have sy : sgn (y1 - y0) = 1 := sgn_pos (by omega)
  have s0 := sgn0
  have hR := bx2_cells 66 w x0 y0 x1 y1
  go_enter Tryz.func55, Tryz.ntmps55
  go_wp2_with fail
  refine (pointOk_any _ _ _).mono ?_
  rintro e w1 ⟨rfl, hb1⟩
  have g1 : Bel (bx2 66 w x0 y0 x1 y1) w1 := hb1
  clear hb1
  go_wp2_with fail
  refine (pointOk_any _ _ _).mono ?_
  rintro e w2 ⟨rfl, hb2⟩
  have g2 : Bel (bx2 66 w x0 y0 x1 y1) w2 := bel_step g1 hb2
  clear hb2 g1
  go_wp2_with fail
  refine (minus_any _ _ _ _ _ pb pa).mono ?_
  rintro e w3 ⟨rfl, hb3⟩
  have g3 : Bel w w3 := bel_step (bel_step (bx2_bel 66 w x0 y0 x1 y1) g2) hb3
  have ht : Winds w3 := hT.bel g3
  have hR1 : ∀ w', Bel (uAt w3 (x1 - x0) (y1 - y0)) w' → w'.cell? ⟨w3.heap.size, 0, none⟩ = some (.int .i64 (x1 - x0)) ∧ w'.cell? ⟨w3.heap.size, 1, none⟩ = some (.int .i64 (y1 - y0)) :=
    fun w' h => uAt_cells h
  have hR2 : ∀ w', Bel (uAt w3 (0) (y1 - y0)) w' → w'.cell? ⟨w3.heap.size, 0, none⟩ = some (.int .i64 0) ∧ w'.cell? ⟨w3.heap.size, 1, none⟩ = some (.int .i64 (y1 - y0)) ∧ w'.cell? ⟨0, 7, none⟩ = some (.int .i64 2) :=
    fun w' h => ⟨(uAt_cells h).1, (uAt_cells h).2, (uAt_winds ht h).2.2.2.2.2.2.2.2.1⟩
  have k1 : Bel (uAt w3 (x1 - x0) (y1 - y0)) (uAt w3 (x1 - x0) (y1 - y0)) := Bel.refl _
  have k2 : Bel (uAt w3 (0) (y1 - y0)) (uAt w3 (0) (y1 - y0)) := Bel.refl _
  have HT : Hid (Winds w3) := ht
  clear g2 hb3 hR ht
  go_wp2
  go_region_held3 (fun w' => Bel (uAt w3 (x1 - x0) (y1 - y0)) w') (repeat (first | exact k1 | refine Bel.drew ?_ | assumption))
    (first
      | (go_at_call 68; refine (abs_any _ _ (by omega) (by omega)).mono ?_; rintro e w' ⟨rfl, rfl⟩))
  go_wp2
  refine wp_region_noPanic ?_
  refine wp_region_held_drew (S := fun w' => Bel (uAt w3 (0) (y1 - y0)) w') (by kernel_rfl) (Bel.drew (Bel.drew k2)) (fun hHeld => ?_)
  refine tk 0 hHeld ?_; refine tk 1 hHeld ?_; refine tk 4 hHeld ?_; refine tk 5 hHeld ?_
  refine rd1 2 (fun K hK => ?_)
  go_simp
  refine (sign_any _ _).mono ?_
  rintro e w' ⟨rfl, rfl⟩
  go_wp2_with fail
  refine hK.out _ _ (hHeld) (fun hHeld' => ?_)
  clear hK K hHeld
  have hHeld := hHeld'
  clear hHeld'
  try simp only [Act.put, List.setIfInBounds_toArray, List.set_cons_zero, List.set_cons_succ]
  refine tk 3 hHeld ?_; refine tkv 8 (.pointer (some ⟨0, 6, none⟩)) hHeld ?_
  refine rd1 6 (fun K hK => ?_)
  go_simp
  refine (sign_any _ _).mono ?_
  rintro e w' ⟨rfl, rfl⟩
  go_wp2_with fail
  refine hK.out _ _ (hHeld) (fun hHeld' => ?_)
  clear hK K hHeld
  have hHeld := hHeld'
  clear hHeld'
  try simp only [Act.put, List.setIfInBounds_toArray, List.set_cons_zero, List.set_cons_succ]
  refine tk 7 hHeld ?_; refine tkv 9 (.pointer (some ⟨0, 7, none⟩)) hHeld ?_; refine tk 10 hHeld ?_; refine tk 11 hHeld ?_
  refine wpAnyH_done (by kernel_rfl) ?_ _
  refine NoPanic.normal ?_
  go_wp2
  go_ret
  exact ⟨rfl, Bel.drew (Bel.drew (bel_alloc g3 _))⟩

set_option maxHeartbeats 2000000 in
theorem head_3 (x0 y0 x1 y1 : Int) (w : World) (hT : Winds w) (h0 : pok x0 y0 = true) (h1 : pok x1 y1 = true) (he : (x0 == x1) = false) (hA : 2 * ab (x1 - x0) ≤ 5 * ab (y1 - y0)) (hB : 5 * ab (x1 - x0) < 2 * ab (y1 - y0)) (hs0 : y1 - y0 < 0) :
    Calls Tryz.prog 55 #[pt x0 y0, pt x1 y1] w fun e w' => e = .returned (.int .i64 6) ∧ Bel w w' := by
  obtain ⟨a0, a1, a2, a3⟩ := pOk_iff.1 h0
  obtain ⟨b0, b1, b2, b3⟩ := pOk_iff.1 h1
  have pa := pOk_iff.1 h0
  have pb := pOk_iff.1 h1
  obtain ⟨p0, p1⟩ := ab_bd (n := x1 - x0) (by omega) (by omega)
  obtain ⟨q0, q1⟩ := ab_bd (n := y1 - y0) (by omega) (by omega)
  have sy : sgn (y1 - y0) = -1 := sgn_neg (by omega)
  have s0 := sgn0
  have hR := bx2_cells 66 w x0 y0 x1 y1
  go_enter Tryz.func55, Tryz.ntmps55
  go_wp2_with fail
  refine (pointOk_any _ _ _).mono ?_
  rintro e w1 ⟨rfl, hb1⟩
  have g1 : Bel (bx2 66 w x0 y0 x1 y1) w1 := hb1
  clear hb1
  go_wp2_with fail
  refine (pointOk_any _ _ _).mono ?_
  rintro e w2 ⟨rfl, hb2⟩
  have g2 : Bel (bx2 66 w x0 y0 x1 y1) w2 := bel_step g1 hb2
  clear hb2 g1
  go_wp2_with fail
  refine (minus_any _ _ _ _ _ pb pa).mono ?_
  rintro e w3 ⟨rfl, hb3⟩
  have g3 : Bel w w3 := bel_step (bel_step (bx2_bel 66 w x0 y0 x1 y1) g2) hb3
  have ht : Winds w3 := hT.bel g3
  have hR1 : ∀ w', Bel (uAt w3 (x1 - x0) (y1 - y0)) w' → w'.cell? ⟨w3.heap.size, 0, none⟩ = some (.int .i64 (x1 - x0)) ∧ w'.cell? ⟨w3.heap.size, 1, none⟩ = some (.int .i64 (y1 - y0)) :=
    fun w' h => uAt_cells h
  have hR2 : ∀ w', Bel (uAt w3 (0) (y1 - y0)) w' → w'.cell? ⟨w3.heap.size, 0, none⟩ = some (.int .i64 0) ∧ w'.cell? ⟨w3.heap.size, 1, none⟩ = some (.int .i64 (y1 - y0)) ∧ w'.cell? ⟨0, 1, none⟩ = some (.int .i64 6) :=
    fun w' h => ⟨(uAt_cells h).1, (uAt_cells h).2, (uAt_winds ht h).2.2.1⟩
  have k1 : Bel (uAt w3 (x1 - x0) (y1 - y0)) (uAt w3 (x1 - x0) (y1 - y0)) := Bel.refl _
  have k2 : Bel (uAt w3 (0) (y1 - y0)) (uAt w3 (0) (y1 - y0)) := Bel.refl _
  have HT : Hid (Winds w3) := ht
  clear g2 hb3 hR ht
  go_wp2
  go_region_held3 (fun w' => Bel (uAt w3 (x1 - x0) (y1 - y0)) w') (repeat (first | exact k1 | refine Bel.drew ?_ | assumption))
    (first
      | (go_at_call 68; refine (abs_any _ _ (by omega) (by omega)).mono ?_; rintro e w' ⟨rfl, rfl⟩))
  go_wp2
  refine wp_region_noPanic ?_
  refine wp_region_held_drew (S := fun w' => Bel (uAt w3 (0) (y1 - y0)) w') (by kernel_rfl) (Bel.drew (Bel.drew k2)) (fun hHeld => ?_)
  refine tk 0 hHeld ?_; refine tk 1 hHeld ?_; refine tk 4 hHeld ?_; refine tk 5 hHeld ?_
  refine rd1 2 (fun K hK => ?_)
  go_simp
  refine (sign_any _ _).mono ?_
  rintro e w' ⟨rfl, rfl⟩
  go_wp2_with fail
  refine hK.out _ _ (hHeld) (fun hHeld' => ?_)
  clear hK K hHeld
  have hHeld := hHeld'
  clear hHeld'
  try simp only [Act.put, List.setIfInBounds_toArray, List.set_cons_zero, List.set_cons_succ]
  refine tk 3 hHeld ?_; refine tkv 8 (.pointer (some ⟨0, 0, none⟩)) hHeld ?_
  refine rd1 6 (fun K hK => ?_)
  go_simp
  refine (sign_any _ _).mono ?_
  rintro e w' ⟨rfl, rfl⟩
  go_wp2_with fail
  refine hK.out _ _ (hHeld) (fun hHeld' => ?_)
  clear hK K hHeld
  have hHeld := hHeld'
  clear hHeld'
  try simp only [Act.put, List.setIfInBounds_toArray, List.set_cons_zero, List.set_cons_succ]
  refine tk 7 hHeld ?_; refine tkv 9 (.pointer (some ⟨0, 1, none⟩)) hHeld ?_; refine tk 10 hHeld ?_; refine tk 11 hHeld ?_
  refine wpAnyH_done (by kernel_rfl) ?_ _
  refine NoPanic.normal ?_
  go_wp2
  go_ret
  exact ⟨rfl, Bel.drew (Bel.drew (bel_alloc g3 _))⟩

set_option maxHeartbeats 2000000 in
theorem head_4 (x0 y0 x1 y1 : Int) (w : World) (hT : Winds w) (h0 : pok x0 y0 = true) (h1 : pok x1 y1 = true) (he : (x0 == x1) = false) (hA : 2 * ab (x1 - x0) ≤ 5 * ab (y1 - y0)) (hB : 2 * ab (y1 - y0) ≤ 5 * ab (x1 - x0)) (hs0 : 0 < x1 - x0) (hs1 : 0 < y1 - y0) :
    Calls Tryz.prog 55 #[pt x0 y0, pt x1 y1] w fun e w' => e = .returned (.int .i64 1) ∧ Bel w w' := by
  obtain ⟨a0, a1, a2, a3⟩ := pOk_iff.1 h0
  obtain ⟨b0, b1, b2, b3⟩ := pOk_iff.1 h1
  have pa := pOk_iff.1 h0
  have pb := pOk_iff.1 h1
  obtain ⟨p0, p1⟩ := ab_bd (n := x1 - x0) (by omega) (by omega)
  obtain ⟨q0, q1⟩ := ab_bd (n := y1 - y0) (by omega) (by omega)
  have sx : sgn (x1 - x0) = 1 := sgn_pos (by omega)
  have sy : sgn (y1 - y0) = 1 := sgn_pos (by omega)
  have hR := bx2_cells 66 w x0 y0 x1 y1
  go_enter Tryz.func55, Tryz.ntmps55
  go_wp2_with fail
  refine (pointOk_any _ _ _).mono ?_
  rintro e w1 ⟨rfl, hb1⟩
  have g1 : Bel (bx2 66 w x0 y0 x1 y1) w1 := hb1
  clear hb1
  go_wp2_with fail
  refine (pointOk_any _ _ _).mono ?_
  rintro e w2 ⟨rfl, hb2⟩
  have g2 : Bel (bx2 66 w x0 y0 x1 y1) w2 := bel_step g1 hb2
  clear hb2 g1
  go_wp2_with fail
  refine (minus_any _ _ _ _ _ pb pa).mono ?_
  rintro e w3 ⟨rfl, hb3⟩
  have g3 : Bel w w3 := bel_step (bel_step (bx2_bel 66 w x0 y0 x1 y1) g2) hb3
  have ht : Winds w3 := hT.bel g3
  have hR1 : ∀ w', Bel (uAt w3 (x1 - x0) (y1 - y0)) w' → w'.cell? ⟨w3.heap.size, 0, none⟩ = some (.int .i64 (x1 - x0)) ∧ w'.cell? ⟨w3.heap.size, 1, none⟩ = some (.int .i64 (y1 - y0)) :=
    fun w' h => uAt_cells h
  have hR2 : ∀ w', Bel (uAt w3 (x1 - x0) (y1 - y0)) w' → w'.cell? ⟨w3.heap.size, 0, none⟩ = some (.int .i64 (x1 - x0)) ∧ w'.cell? ⟨w3.heap.size, 1, none⟩ = some (.int .i64 (y1 - y0)) ∧ w'.cell? ⟨0, 8, none⟩ = some (.int .i64 1) :=
    fun w' h => ⟨(uAt_cells h).1, (uAt_cells h).2, (uAt_winds ht h).2.2.2.2.2.2.2.2.2⟩
  have k1 : Bel (uAt w3 (x1 - x0) (y1 - y0)) (uAt w3 (x1 - x0) (y1 - y0)) := Bel.refl _
  have k2 : Bel (uAt w3 (x1 - x0) (y1 - y0)) (uAt w3 (x1 - x0) (y1 - y0)) := Bel.refl _
  have HT : Hid (Winds w3) := ht
  clear g2 hb3 hR ht
  go_wp2
  go_region_held3 (fun w' => Bel (uAt w3 (x1 - x0) (y1 - y0)) w') (repeat (first | exact k1 | refine Bel.drew ?_ | assumption))
    (first
      | (go_at_call 68; refine (abs_any _ _ (by omega) (by omega)).mono ?_; rintro e w' ⟨rfl, rfl⟩))
  go_wp2
  refine wp_region_noPanic ?_
  refine wp_region_held_drew (S := fun w' => Bel (uAt w3 (x1 - x0) (y1 - y0)) w') (by kernel_rfl) (Bel.drew (Bel.drew k2)) (fun hHeld => ?_)
  refine tk 0 hHeld ?_; refine tk 1 hHeld ?_; refine tk 4 hHeld ?_; refine tk 5 hHeld ?_
  refine rd1 2 (fun K hK => ?_)
  go_simp
  refine (sign_any _ _).mono ?_
  rintro e w' ⟨rfl, rfl⟩
  go_wp2_with fail
  refine hK.out _ _ (hHeld) (fun hHeld' => ?_)
  clear hK K hHeld
  have hHeld := hHeld'
  clear hHeld'
  try simp only [Act.put, List.setIfInBounds_toArray, List.set_cons_zero, List.set_cons_succ]
  refine tk 3 hHeld ?_; refine tkv 8 (.pointer (some ⟨0, 6, none⟩)) hHeld ?_
  refine rd1 6 (fun K hK => ?_)
  go_simp
  refine (sign_any _ _).mono ?_
  rintro e w' ⟨rfl, rfl⟩
  go_wp2_with fail
  refine hK.out _ _ (hHeld) (fun hHeld' => ?_)
  clear hK K hHeld
  have hHeld := hHeld'
  clear hHeld'
  try simp only [Act.put, List.setIfInBounds_toArray, List.set_cons_zero, List.set_cons_succ]
  refine tk 7 hHeld ?_; refine tkv 9 (.pointer (some ⟨0, 8, none⟩)) hHeld ?_; refine tk 10 hHeld ?_; refine tk 11 hHeld ?_
  refine wpAnyH_done (by kernel_rfl) ?_ _
  refine NoPanic.normal ?_
  go_wp2
  go_ret
  exact ⟨rfl, Bel.drew (Bel.drew (bel_alloc g3 _))⟩

set_option maxHeartbeats 2000000 in
theorem head_5 (x0 y0 x1 y1 : Int) (w : World) (hT : Winds w) (h0 : pok x0 y0 = true) (h1 : pok x1 y1 = true) (he : (x0 == x1) = false) (hA : 2 * ab (x1 - x0) ≤ 5 * ab (y1 - y0)) (hB : 2 * ab (y1 - y0) ≤ 5 * ab (x1 - x0)) (hs0 : x1 - x0 < 0) (hs1 : 0 < y1 - y0) :
    Calls Tryz.prog 55 #[pt x0 y0, pt x1 y1] w fun e w' => e = .returned (.int .i64 3) ∧ Bel w w' := by
  obtain ⟨a0, a1, a2, a3⟩ := pOk_iff.1 h0
  obtain ⟨b0, b1, b2, b3⟩ := pOk_iff.1 h1
  have pa := pOk_iff.1 h0
  have pb := pOk_iff.1 h1
  obtain ⟨p0, p1⟩ := ab_bd (n := x1 - x0) (by omega) (by omega)
  obtain ⟨q0, q1⟩ := ab_bd (n := y1 - y0) (by omega) (by omega)
  have sx : sgn (x1 - x0) = -1 := sgn_neg (by omega)
  have sy : sgn (y1 - y0) = 1 := sgn_pos (by omega)
  have hR := bx2_cells 66 w x0 y0 x1 y1
  go_enter Tryz.func55, Tryz.ntmps55
  go_wp2_with fail
  refine (pointOk_any _ _ _).mono ?_
  rintro e w1 ⟨rfl, hb1⟩
  have g1 : Bel (bx2 66 w x0 y0 x1 y1) w1 := hb1
  clear hb1
  go_wp2_with fail
  refine (pointOk_any _ _ _).mono ?_
  rintro e w2 ⟨rfl, hb2⟩
  have g2 : Bel (bx2 66 w x0 y0 x1 y1) w2 := bel_step g1 hb2
  clear hb2 g1
  go_wp2_with fail
  refine (minus_any _ _ _ _ _ pb pa).mono ?_
  rintro e w3 ⟨rfl, hb3⟩
  have g3 : Bel w w3 := bel_step (bel_step (bx2_bel 66 w x0 y0 x1 y1) g2) hb3
  have ht : Winds w3 := hT.bel g3
  have hR1 : ∀ w', Bel (uAt w3 (x1 - x0) (y1 - y0)) w' → w'.cell? ⟨w3.heap.size, 0, none⟩ = some (.int .i64 (x1 - x0)) ∧ w'.cell? ⟨w3.heap.size, 1, none⟩ = some (.int .i64 (y1 - y0)) :=
    fun w' h => uAt_cells h
  have hR2 : ∀ w', Bel (uAt w3 (x1 - x0) (y1 - y0)) w' → w'.cell? ⟨w3.heap.size, 0, none⟩ = some (.int .i64 (x1 - x0)) ∧ w'.cell? ⟨w3.heap.size, 1, none⟩ = some (.int .i64 (y1 - y0)) ∧ w'.cell? ⟨0, 6, none⟩ = some (.int .i64 3) :=
    fun w' h => ⟨(uAt_cells h).1, (uAt_cells h).2, (uAt_winds ht h).2.2.2.2.2.2.2.1⟩
  have k1 : Bel (uAt w3 (x1 - x0) (y1 - y0)) (uAt w3 (x1 - x0) (y1 - y0)) := Bel.refl _
  have k2 : Bel (uAt w3 (x1 - x0) (y1 - y0)) (uAt w3 (x1 - x0) (y1 - y0)) := Bel.refl _
  have HT : Hid (Winds w3) := ht
  clear g2 hb3 hR ht
  go_wp2
  go_region_held3 (fun w' => Bel (uAt w3 (x1 - x0) (y1 - y0)) w') (repeat (first | exact k1 | refine Bel.drew ?_ | assumption))
    (first
      | (go_at_call 68; refine (abs_any _ _ (by omega) (by omega)).mono ?_; rintro e w' ⟨rfl, rfl⟩))
  go_wp2
  refine wp_region_noPanic ?_
  refine wp_region_held_drew (S := fun w' => Bel (uAt w3 (x1 - x0) (y1 - y0)) w') (by kernel_rfl) (Bel.drew (Bel.drew k2)) (fun hHeld => ?_)
  refine tk 0 hHeld ?_; refine tk 1 hHeld ?_; refine tk 4 hHeld ?_; refine tk 5 hHeld ?_
  refine rd1 2 (fun K hK => ?_)
  go_simp
  refine (sign_any _ _).mono ?_
  rintro e w' ⟨rfl, rfl⟩
  go_wp2_with fail
  refine hK.out _ _ (hHeld) (fun hHeld' => ?_)
  clear hK K hHeld
  have hHeld := hHeld'
  clear hHeld'
  try simp only [Act.put, List.setIfInBounds_toArray, List.set_cons_zero, List.set_cons_succ]
  refine tk 3 hHeld ?_; refine tkv 8 (.pointer (some ⟨0, 6, none⟩)) hHeld ?_
  refine rd1 6 (fun K hK => ?_)
  go_simp
  refine (sign_any _ _).mono ?_
  rintro e w' ⟨rfl, rfl⟩
  go_wp2_with fail
  refine hK.out _ _ (hHeld) (fun hHeld' => ?_)
  clear hK K hHeld
  have hHeld := hHeld'
  clear hHeld'
  try simp only [Act.put, List.setIfInBounds_toArray, List.set_cons_zero, List.set_cons_succ]
  refine tk 7 hHeld ?_; refine tkv 9 (.pointer (some ⟨0, 6, none⟩)) hHeld ?_; refine tk 10 hHeld ?_; refine tk 11 hHeld ?_
  refine wpAnyH_done (by kernel_rfl) ?_ _
  refine NoPanic.normal ?_
  go_wp2
  go_ret
  exact ⟨rfl, Bel.drew (Bel.drew (bel_alloc g3 _))⟩

set_option maxHeartbeats 2000000 in
theorem head_6 (x0 y0 x1 y1 : Int) (w : World) (hT : Winds w) (h0 : pok x0 y0 = true) (h1 : pok x1 y1 = true) (he : (x0 == x1) = false) (hA : 2 * ab (x1 - x0) ≤ 5 * ab (y1 - y0)) (hB : 2 * ab (y1 - y0) ≤ 5 * ab (x1 - x0)) (hs0 : x1 - x0 < 0) (hs1 : y1 - y0 < 0) :
    Calls Tryz.prog 55 #[pt x0 y0, pt x1 y1] w fun e w' => e = .returned (.int .i64 5) ∧ Bel w w' := by
  obtain ⟨a0, a1, a2, a3⟩ := pOk_iff.1 h0
  obtain ⟨b0, b1, b2, b3⟩ := pOk_iff.1 h1
  have pa := pOk_iff.1 h0
  have pb := pOk_iff.1 h1
  obtain ⟨p0, p1⟩ := ab_bd (n := x1 - x0) (by omega) (by omega)
  obtain ⟨q0, q1⟩ := ab_bd (n := y1 - y0) (by omega) (by omega)
  have sx : sgn (x1 - x0) = -1 := sgn_neg (by omega)
  have sy : sgn (y1 - y0) = -1 := sgn_neg (by omega)
  have hR := bx2_cells 66 w x0 y0 x1 y1
  go_enter Tryz.func55, Tryz.ntmps55
  go_wp2_with fail
  refine (pointOk_any _ _ _).mono ?_
  rintro e w1 ⟨rfl, hb1⟩
  have g1 : Bel (bx2 66 w x0 y0 x1 y1) w1 := hb1
  clear hb1
  go_wp2_with fail
  refine (pointOk_any _ _ _).mono ?_
  rintro e w2 ⟨rfl, hb2⟩
  have g2 : Bel (bx2 66 w x0 y0 x1 y1) w2 := bel_step g1 hb2
  clear hb2 g1
  go_wp2_with fail
  refine (minus_any _ _ _ _ _ pb pa).mono ?_
  rintro e w3 ⟨rfl, hb3⟩
  have g3 : Bel w w3 := bel_step (bel_step (bx2_bel 66 w x0 y0 x1 y1) g2) hb3
  have ht : Winds w3 := hT.bel g3
  have hR1 : ∀ w', Bel (uAt w3 (x1 - x0) (y1 - y0)) w' → w'.cell? ⟨w3.heap.size, 0, none⟩ = some (.int .i64 (x1 - x0)) ∧ w'.cell? ⟨w3.heap.size, 1, none⟩ = some (.int .i64 (y1 - y0)) :=
    fun w' h => uAt_cells h
  have hR2 : ∀ w', Bel (uAt w3 (x1 - x0) (y1 - y0)) w' → w'.cell? ⟨w3.heap.size, 0, none⟩ = some (.int .i64 (x1 - x0)) ∧ w'.cell? ⟨w3.heap.size, 1, none⟩ = some (.int .i64 (y1 - y0)) ∧ w'.cell? ⟨0, 0, none⟩ = some (.int .i64 5) :=
    fun w' h => ⟨(uAt_cells h).1, (uAt_cells h).2, (uAt_winds ht h).2.1⟩
  have k1 : Bel (uAt w3 (x1 - x0) (y1 - y0)) (uAt w3 (x1 - x0) (y1 - y0)) := Bel.refl _
  have k2 : Bel (uAt w3 (x1 - x0) (y1 - y0)) (uAt w3 (x1 - x0) (y1 - y0)) := Bel.refl _
  have HT : Hid (Winds w3) := ht
  clear g2 hb3 hR ht
  go_wp2
  go_region_held3 (fun w' => Bel (uAt w3 (x1 - x0) (y1 - y0)) w') (repeat (first | exact k1 | refine Bel.drew ?_ | assumption))
    (first
      | (go_at_call 68; refine (abs_any _ _ (by omega) (by omega)).mono ?_; rintro e w' ⟨rfl, rfl⟩))
  go_wp2
  refine wp_region_noPanic ?_
  refine wp_region_held_drew (S := fun w' => Bel (uAt w3 (x1 - x0) (y1 - y0)) w') (by kernel_rfl) (Bel.drew (Bel.drew k2)) (fun hHeld => ?_)
  refine tk 0 hHeld ?_; refine tk 1 hHeld ?_; refine tk 4 hHeld ?_; refine tk 5 hHeld ?_
  refine rd1 2 (fun K hK => ?_)
  go_simp
  refine (sign_any _ _).mono ?_
  rintro e w' ⟨rfl, rfl⟩
  go_wp2_with fail
  refine hK.out _ _ (hHeld) (fun hHeld' => ?_)
  clear hK K hHeld
  have hHeld := hHeld'
  clear hHeld'
  try simp only [Act.put, List.setIfInBounds_toArray, List.set_cons_zero, List.set_cons_succ]
  refine tk 3 hHeld ?_; refine tkv 8 (.pointer (some ⟨0, 0, none⟩)) hHeld ?_
  refine rd1 6 (fun K hK => ?_)
  go_simp
  refine (sign_any _ _).mono ?_
  rintro e w' ⟨rfl, rfl⟩
  go_wp2_with fail
  refine hK.out _ _ (hHeld) (fun hHeld' => ?_)
  clear hK K hHeld
  have hHeld := hHeld'
  clear hHeld'
  try simp only [Act.put, List.setIfInBounds_toArray, List.set_cons_zero, List.set_cons_succ]
  refine tk 7 hHeld ?_; refine tkv 9 (.pointer (some ⟨0, 0, none⟩)) hHeld ?_; refine tk 10 hHeld ?_; refine tk 11 hHeld ?_
  refine wpAnyH_done (by kernel_rfl) ?_ _
  refine NoPanic.normal ?_
  go_wp2
  go_ret
  exact ⟨rfl, Bel.drew (Bel.drew (bel_alloc g3 _))⟩

set_option maxHeartbeats 2000000 in
theorem head_7 (x0 y0 x1 y1 : Int) (w : World) (hT : Winds w) (h0 : pok x0 y0 = true) (h1 : pok x1 y1 = true) (he : (x0 == x1) = false) (hA : 2 * ab (x1 - x0) ≤ 5 * ab (y1 - y0)) (hB : 2 * ab (y1 - y0) ≤ 5 * ab (x1 - x0)) (hs0 : 0 < x1 - x0) (hs1 : y1 - y0 < 0) :
    Calls Tryz.prog 55 #[pt x0 y0, pt x1 y1] w fun e w' => e = .returned (.int .i64 7) ∧ Bel w w' := by
  obtain ⟨a0, a1, a2, a3⟩ := pOk_iff.1 h0
  obtain ⟨b0, b1, b2, b3⟩ := pOk_iff.1 h1
  have pa := pOk_iff.1 h0
  have pb := pOk_iff.1 h1
  obtain ⟨p0, p1⟩ := ab_bd (n := x1 - x0) (by omega) (by omega)
  obtain ⟨q0, q1⟩ := ab_bd (n := y1 - y0) (by omega) (by omega)
  have sx : sgn (x1 - x0) = 1 := sgn_pos (by omega)
  have sy : sgn (y1 - y0) = -1 := sgn_neg (by omega)
  have hR := bx2_cells 66 w x0 y0 x1 y1
  go_enter Tryz.func55, Tryz.ntmps55
  go_wp2_with fail
  refine (pointOk_any _ _ _).mono ?_
  rintro e w1 ⟨rfl, hb1⟩
  have g1 : Bel (bx2 66 w x0 y0 x1 y1) w1 := hb1
  clear hb1
  go_wp2_with fail
  refine (pointOk_any _ _ _).mono ?_
  rintro e w2 ⟨rfl, hb2⟩
  have g2 : Bel (bx2 66 w x0 y0 x1 y1) w2 := bel_step g1 hb2
  clear hb2 g1
  go_wp2_with fail
  refine (minus_any _ _ _ _ _ pb pa).mono ?_
  rintro e w3 ⟨rfl, hb3⟩
  have g3 : Bel w w3 := bel_step (bel_step (bx2_bel 66 w x0 y0 x1 y1) g2) hb3
  have ht : Winds w3 := hT.bel g3
  have hR1 : ∀ w', Bel (uAt w3 (x1 - x0) (y1 - y0)) w' → w'.cell? ⟨w3.heap.size, 0, none⟩ = some (.int .i64 (x1 - x0)) ∧ w'.cell? ⟨w3.heap.size, 1, none⟩ = some (.int .i64 (y1 - y0)) :=
    fun w' h => uAt_cells h
  have hR2 : ∀ w', Bel (uAt w3 (x1 - x0) (y1 - y0)) w' → w'.cell? ⟨w3.heap.size, 0, none⟩ = some (.int .i64 (x1 - x0)) ∧ w'.cell? ⟨w3.heap.size, 1, none⟩ = some (.int .i64 (y1 - y0)) ∧ w'.cell? ⟨0, 2, none⟩ = some (.int .i64 7) :=
    fun w' h => ⟨(uAt_cells h).1, (uAt_cells h).2, (uAt_winds ht h).2.2.2.1⟩
  have k1 : Bel (uAt w3 (x1 - x0) (y1 - y0)) (uAt w3 (x1 - x0) (y1 - y0)) := Bel.refl _
  have k2 : Bel (uAt w3 (x1 - x0) (y1 - y0)) (uAt w3 (x1 - x0) (y1 - y0)) := Bel.refl _
  have HT : Hid (Winds w3) := ht
  clear g2 hb3 hR ht
  go_wp2
  go_region_held3 (fun w' => Bel (uAt w3 (x1 - x0) (y1 - y0)) w') (repeat (first | exact k1 | refine Bel.drew ?_ | assumption))
    (first
      | (go_at_call 68; refine (abs_any _ _ (by omega) (by omega)).mono ?_; rintro e w' ⟨rfl, rfl⟩))
  go_wp2
  refine wp_region_noPanic ?_
  refine wp_region_held_drew (S := fun w' => Bel (uAt w3 (x1 - x0) (y1 - y0)) w') (by kernel_rfl) (Bel.drew (Bel.drew k2)) (fun hHeld => ?_)
  refine tk 0 hHeld ?_; refine tk 1 hHeld ?_; refine tk 4 hHeld ?_; refine tk 5 hHeld ?_
  refine rd1 2 (fun K hK => ?_)
  go_simp
  refine (sign_any _ _).mono ?_
  rintro e w' ⟨rfl, rfl⟩
  go_wp2_with fail
  refine hK.out _ _ (hHeld) (fun hHeld' => ?_)
  clear hK K hHeld
  have hHeld := hHeld'
  clear hHeld'
  try simp only [Act.put, List.setIfInBounds_toArray, List.set_cons_zero, List.set_cons_succ]
  refine tk 3 hHeld ?_; refine tkv 8 (.pointer (some ⟨0, 0, none⟩)) hHeld ?_
  refine rd1 6 (fun K hK => ?_)
  go_simp
  refine (sign_any _ _).mono ?_
  rintro e w' ⟨rfl, rfl⟩
  go_wp2_with fail
  refine hK.out _ _ (hHeld) (fun hHeld' => ?_)
  clear hK K hHeld
  have hHeld := hHeld'
  clear hHeld'
  try simp only [Act.put, List.setIfInBounds_toArray, List.set_cons_zero, List.set_cons_succ]
  refine tk 7 hHeld ?_; refine tkv 9 (.pointer (some ⟨0, 2, none⟩)) hHeld ?_; refine tk 10 hHeld ?_; refine tk 11 hHeld ?_
  refine wpAnyH_done (by kernel_rfl) ?_ _
  refine NoPanic.normal ?_
  go_wp2
  go_ret
  exact ⟨rfl, Bel.drew (Bel.drew (bel_alloc g3 _))⟩

set_option maxHeartbeats 2000000 in
theorem headZ_0 (x0 y0 y1 : Int) (w : World) (hT : Winds w) (h0 : pok x0 y0 = true) (h1 : pok x0 y1 = true) (he : (y0 == y1) = false) (hs0 : 0 < y1 - y0) :
    Calls Tryz.prog 55 #[pt x0 y0, pt x0 y1] w fun e w' => e = .returned (.int .i64 2) ∧ Bel w w' := by
  obtain ⟨a0, a1, a2, a3⟩ := pOk_iff.1 h0
  obtain ⟨b0, b1, b2, b3⟩ := pOk_iff.1 h1
  have pa := pOk_iff.1 h0
  have pb := pOk_iff.1 h1
  have z : ab 0 = 0 := rfl
  obtain ⟨q0, q1⟩ := ab_bd (n := y1 - y0) (by omega) (by omega)
  have q2 : 0 < ab (y1 - y0) := by unfold ab; omega
  have hxx : x0 - x0 = 0 := by omega
  have s0 := sgn0
  have sy : sgn (y1 - y0) = 1 := sgn_pos (by omega)
  have hR := bx2_cells 66 w x0 y0 x0 y1
  go_enter Tryz.func55, Tryz.ntmps55
  go_wp2_with fail
  refine (pointOk_any _ _ _).mono ?_
  rintro e w1 ⟨rfl, hb1⟩
  have g1 : Bel (bx2 66 w x0 y0 x0 y1) w1 := hb1
  clear hb1
  go_wp2_with fail
  refine (pointOk_any _ _ _).mono ?_
  rintro e w2 ⟨rfl, hb2⟩
  have g2 : Bel (bx2 66 w x0 y0 x0 y1) w2 := bel_step g1 hb2
  clear hb2 g1
  go_wp2_with fail
  refine (minus_any _ _ _ _ _ pb pa).mono ?_
  rintro e w3 ⟨rfl, hb3⟩
  have g3 : Bel w w3 := bel_step (bel_step (bx2_bel 66 w x0 y0 x0 y1) g2) hb3
  have ht : Winds w3 := hT.bel g3
  have hR1 : ∀ w', Bel (uAt w3 (0) (y1 - y0)) w' → w'.cell? ⟨w3.heap.size, 0, none⟩ = some (.int .i64 0) ∧ w'.cell? ⟨w3.heap.size, 1, none⟩ = some (.int .i64 (y1 - y0)) :=
    fun w' h => uAt_cells h
  have hR2 : ∀ w', Bel (uAt w3 (0) (y1 - y0)) w' → w'.cell? ⟨w3.heap.size, 0, none⟩ = some (.int .i64 0) ∧ w'.cell? ⟨w3.heap.size, 1, none⟩ = some (.int .i64 (y1 - y0)) ∧ w'.cell? ⟨0, 7, none⟩ = some (.int .i64 2) :=
    fun w' h => ⟨(uAt_cells h).1, (uAt_cells h).2, (uAt_winds ht h).2.2.2.2.2.2.2.2.1⟩
  have k1 : Bel (uAt w3 (0) (y1 - y0)) (uAt w3 (0) (y1 - y0)) := Bel.refl _
  have k2 : Bel (uAt w3 (0) (y1 - y0)) (uAt w3 (0) (y1 - y0)) := Bel.refl _
  have HT : Hid (Winds w3) := ht
  clear g2 hb3 hR ht
  go_wp2
  go_region_held3 (fun w' => Bel (uAt w3 (0) (y1 - y0)) w') (repeat (first | exact k1 | refine Bel.drew ?_ | assumption))
    (first
      | (go_at_call 68; refine (abs_any _ _ (by omega) (by omega)).mono ?_; rintro e w' ⟨rfl, rfl⟩))
  go_wp2
  refine wp_region_noPanic ?_
  refine wp_region_held_drew (S := fun w' => Bel (uAt w3 (0) (y1 - y0)) w') (by kernel_rfl) (Bel.drew (Bel.drew k2)) (fun hHeld => ?_)
  refine tk 0 hHeld ?_; refine tk 1 hHeld ?_; refine tk 4 hHeld ?_; refine tk 5 hHeld ?_
  refine rd1 2 (fun K hK => ?_)
  go_simp
  refine (sign_any _ _).mono ?_
  rintro e w' ⟨rfl, rfl⟩
  go_wp2_with fail
  refine hK.out _ _ (hHeld) (fun hHeld' => ?_)
  clear hK K hHeld
  have hHeld := hHeld'
  clear hHeld'
  try simp only [Act.put, List.setIfInBounds_toArray, List.set_cons_zero, List.set_cons_succ]
  refine tk 3 hHeld ?_; refine tkv 8 (.pointer (some ⟨0, 6, none⟩)) hHeld ?_
  refine rd1 6 (fun K hK => ?_)
  go_simp
  refine (sign_any _ _).mono ?_
  rintro e w' ⟨rfl, rfl⟩
  go_wp2_with fail
  refine hK.out _ _ (hHeld) (fun hHeld' => ?_)
  clear hK K hHeld
  have hHeld := hHeld'
  clear hHeld'
  try simp only [Act.put, List.setIfInBounds_toArray, List.set_cons_zero, List.set_cons_succ]
  refine tk 7 hHeld ?_; refine tkv 9 (.pointer (some ⟨0, 7, none⟩)) hHeld ?_; refine tk 10 hHeld ?_; refine tk 11 hHeld ?_
  refine wpAnyH_done (by kernel_rfl) ?_ _
  refine NoPanic.normal ?_
  go_wp2
  go_ret
  exact ⟨rfl, Bel.drew (Bel.drew (bel_alloc g3 _))⟩

set_option maxHeartbeats 2000000 in
theorem headZ_1 (x0 y0 y1 : Int) (w : World) (hT : Winds w) (h0 : pok x0 y0 = true) (h1 : pok x0 y1 = true) (he : (y0 == y1) = false) (hs0 : y1 - y0 < 0) :
    Calls Tryz.prog 55 #[pt x0 y0, pt x0 y1] w fun e w' => e = .returned (.int .i64 6) ∧ Bel w w' := by
  obtain ⟨a0, a1, a2, a3⟩ := pOk_iff.1 h0
  obtain ⟨b0, b1, b2, b3⟩ := pOk_iff.1 h1
  have pa := pOk_iff.1 h0
  have pb := pOk_iff.1 h1
  have z : ab 0 = 0 := rfl
  obtain ⟨q0, q1⟩ := ab_bd (n := y1 - y0) (by omega) (by omega)
  have q2 : 0 < ab (y1 - y0) := by unfold ab; omega
  have hxx : x0 - x0 = 0 := by omega
  have s0 := sgn0
  have sy : sgn (y1 - y0) = -1 := sgn_neg (by omega)
  have hR := bx2_cells 66 w x0 y0 x0 y1
  go_enter Tryz.func55, Tryz.ntmps55
  go_wp2_with fail
  refine (pointOk_any _ _ _).mono ?_
  rintro e w1 ⟨rfl, hb1⟩
  have g1 : Bel (bx2 66 w x0 y0 x0 y1) w1 := hb1
  clear hb1
  go_wp2_with fail
  refine (pointOk_any _ _ _).mono ?_
  rintro e w2 ⟨rfl, hb2⟩
  have g2 : Bel (bx2 66 w x0 y0 x0 y1) w2 := bel_step g1 hb2
  clear hb2 g1
  go_wp2_with fail
  refine (minus_any _ _ _ _ _ pb pa).mono ?_
  rintro e w3 ⟨rfl, hb3⟩
  have g3 : Bel w w3 := bel_step (bel_step (bx2_bel 66 w x0 y0 x0 y1) g2) hb3
  have ht : Winds w3 := hT.bel g3
  have hR1 : ∀ w', Bel (uAt w3 (0) (y1 - y0)) w' → w'.cell? ⟨w3.heap.size, 0, none⟩ = some (.int .i64 0) ∧ w'.cell? ⟨w3.heap.size, 1, none⟩ = some (.int .i64 (y1 - y0)) :=
    fun w' h => uAt_cells h
  have hR2 : ∀ w', Bel (uAt w3 (0) (y1 - y0)) w' → w'.cell? ⟨w3.heap.size, 0, none⟩ = some (.int .i64 0) ∧ w'.cell? ⟨w3.heap.size, 1, none⟩ = some (.int .i64 (y1 - y0)) ∧ w'.cell? ⟨0, 1, none⟩ = some (.int .i64 6) :=
    fun w' h => ⟨(uAt_cells h).1, (uAt_cells h).2, (uAt_winds ht h).2.2.1⟩
  have k1 : Bel (uAt w3 (0) (y1 - y0)) (uAt w3 (0) (y1 - y0)) := Bel.refl _
  have k2 : Bel (uAt w3 (0) (y1 - y0)) (uAt w3 (0) (y1 - y0)) := Bel.refl _
  have HT : Hid (Winds w3) := ht
  clear g2 hb3 hR ht
  go_wp2
  go_region_held3 (fun w' => Bel (uAt w3 (0) (y1 - y0)) w') (repeat (first | exact k1 | refine Bel.drew ?_ | assumption))
    (first
      | (go_at_call 68; refine (abs_any _ _ (by omega) (by omega)).mono ?_; rintro e w' ⟨rfl, rfl⟩))
  go_wp2
  refine wp_region_noPanic ?_
  refine wp_region_held_drew (S := fun w' => Bel (uAt w3 (0) (y1 - y0)) w') (by kernel_rfl) (Bel.drew (Bel.drew k2)) (fun hHeld => ?_)
  refine tk 0 hHeld ?_; refine tk 1 hHeld ?_; refine tk 4 hHeld ?_; refine tk 5 hHeld ?_
  refine rd1 2 (fun K hK => ?_)
  go_simp
  refine (sign_any _ _).mono ?_
  rintro e w' ⟨rfl, rfl⟩
  go_wp2_with fail
  refine hK.out _ _ (hHeld) (fun hHeld' => ?_)
  clear hK K hHeld
  have hHeld := hHeld'
  clear hHeld'
  try simp only [Act.put, List.setIfInBounds_toArray, List.set_cons_zero, List.set_cons_succ]
  refine tk 3 hHeld ?_; refine tkv 8 (.pointer (some ⟨0, 0, none⟩)) hHeld ?_
  refine rd1 6 (fun K hK => ?_)
  go_simp
  refine (sign_any _ _).mono ?_
  rintro e w' ⟨rfl, rfl⟩
  go_wp2_with fail
  refine hK.out _ _ (hHeld) (fun hHeld' => ?_)
  clear hK K hHeld
  have hHeld := hHeld'
  clear hHeld'
  try simp only [Act.put, List.setIfInBounds_toArray, List.set_cons_zero, List.set_cons_succ]
  refine tk 7 hHeld ?_; refine tkv 9 (.pointer (some ⟨0, 1, none⟩)) hHeld ?_; refine tk 10 hHeld ?_; refine tk 11 hHeld ?_
  refine wpAnyH_done (by kernel_rfl) ?_ _
  refine NoPanic.normal ?_
  go_wp2
  go_ret
  exact ⟨rfl, Bel.drew (Bel.drew (bel_alloc g3 _))⟩
end Go.Proofs.YtdlgehnoiaoneaaGreatDoor

namespace Go.Proofs.YtdlgehnoiaoneaaGreatDoor
open Go.RowKit

theorem specHeading_any (x0 y0 x1 y1 : Int) (w : World) :
    Calls Tryz.prog 52 #[pt x0 y0, pt x1 y1] w fun e w' => e = .returned (.int .i64 (headOf x0 y0 x1 y1)) ∧ Bel w w' := by
  by_cases h0 : pok x0 y0 = true
  · by_cases h1 : pok x1 y1 = true
    · by_cases hx : x0 = x1
      · subst hx
        by_cases hy : y0 = y1
        · subst hy
          rw [head_same]
          have hR := bx2_cells 66 w x0 y0 x0 y0
          go_enter Tryz.func52, Tryz.ntmps52
          go_wp2_with fail
          refine (specPointOk_any _ _ _).mono ?_
          rintro e w1 ⟨rfl, hb1⟩
          have g1 : Bel (bx2 66 w x0 y0 x0 y0) w1 := hb1
          clear hb1
          go_wp2_with fail
          refine (specPointOk_any _ _ _).mono ?_
          rintro e w2 ⟨rfl, hb2⟩
          have g2 : Bel (bx2 66 w x0 y0 x0 y0) w2 := bel_step g1 hb2
          clear hb2 g1
          go_wp2
          go_ret
          exact ⟨rfl, bel_step (bx2_bel 66 w x0 y0 x0 y0) g2⟩
        · rw [head_ok h0 h1 (by omega)]
          have he : (y0 == y1) = false := by simp; exact hy
          have hz : ab (x0 - x0) = 0 := by unfold ab; omega
          by_cases hs : 0 < y1 - y0
          · rw [wind_2 (by unfold ab; omega) (by unfold ab; omega) hs]
            exact specHeadZ_0 _ _ _ _ h0 h1 he hs
          · rw [wind_3 (by unfold ab; omega) (by unfold ab; omega) (by omega)]
            exact specHeadZ_1 _ _ _ _ h0 h1 he (by omega)
      · rw [head_ok h0 h1 (by omega)]
        have he : (x0 == x1) = false := by simp; exact hx
        by_cases hA : 5 * ab (y1 - y0) < 2 * ab (x1 - x0)
        · by_cases hs : 0 < x1 - x0
          · rw [wind_0 hA hs]; exact specHead_0 _ _ _ _ _ h0 h1 he hA hs
          · rw [wind_1 hA (by omega)]; exact specHead_1 _ _ _ _ _ h0 h1 he hA (by omega)
        · have hA : 2 * ab (x1 - x0) ≤ 5 * ab (y1 - y0) := by omega
          by_cases hB : 5 * ab (x1 - x0) < 2 * ab (y1 - y0)
          · by_cases hs : 0 < y1 - y0
            · rw [wind_2 hA hB hs]; exact specHead_2 _ _ _ _ _ h0 h1 he hA hB hs
            · have hs' : y1 - y0 < 0 := by unfold ab at hB; omega
              rw [wind_3 hA hB hs']; exact specHead_3 _ _ _ _ _ h0 h1 he hA hB hs'
          · have hB : 2 * ab (y1 - y0) ≤ 5 * ab (x1 - x0) := by omega
            by_cases hs : 0 < x1 - x0
            · by_cases ht : 0 < y1 - y0
              · rw [wind_4 hA hB hs ht]; exact specHead_4 _ _ _ _ _ h0 h1 he hA hB hs ht
              · have ht' : y1 - y0 < 0 := by unfold ab at hA; omega
                rw [wind_7 hA hB hs ht']; exact specHead_7 _ _ _ _ _ h0 h1 he hA hB hs ht'
            · have hs' : x1 - x0 < 0 := by omega
              by_cases ht : 0 < y1 - y0
              · rw [wind_5 hA hB hs' ht]; exact specHead_5 _ _ _ _ _ h0 h1 he hA hB hs' ht
              · have ht' : y1 - y0 < 0 := by unfold ab at hA; omega
                rw [wind_6 hA hB hs' ht']; exact specHead_6 _ _ _ _ _ h0 h1 he hA hB hs' ht'
    · have h1 : pok x1 y1 = false := by simpa using h1
      rw [head_not (.inr h1)]
      have hR := bx2_cells 66 w x0 y0 x1 y1
      go_enter Tryz.func52, Tryz.ntmps52
      go_wp2_with fail
      refine (specPointOk_any _ _ _).mono ?_
      rintro e w1 ⟨rfl, hb1⟩
      have g1 : Bel (bx2 66 w x0 y0 x1 y1) w1 := hb1
      go_wp2_with fail
      refine (specPointOk_any _ _ _).mono ?_
      rintro e w2 ⟨rfl, hb2⟩
      have g2 : Bel (bx2 66 w x0 y0 x1 y1) w2 := bel_step g1 hb2
      go_wp2
      go_ret
      exact ⟨rfl, bel_step (bx2_bel 66 w x0 y0 x1 y1) g2⟩
  · have h0 : pok x0 y0 = false := by simpa using h0
    rw [head_not (.inl h0)]
    have hR := bx2_cells 66 w x0 y0 x1 y1
    go_enter Tryz.func52, Tryz.ntmps52
    go_wp2_with fail
    refine (specPointOk_any _ _ _).mono ?_
    rintro e w1 ⟨rfl, hb1⟩
    have g1 : Bel (bx2 66 w x0 y0 x1 y1) w1 := hb1
    go_wp2
    go_ret
    exact ⟨rfl, bel_step (bx2_bel 66 w x0 y0 x1 y1) g1⟩

theorem heading_any (x0 y0 x1 y1 : Int) (w : World) (hT : Winds w) :
    Calls Tryz.prog 55 #[pt x0 y0, pt x1 y1] w fun e w' => e = .returned (.int .i64 (headOf x0 y0 x1 y1)) ∧ Bel w w' := by
  by_cases h0 : pok x0 y0 = true
  · by_cases h1 : pok x1 y1 = true
    · by_cases hx : x0 = x1
      · subst hx
        by_cases hy : y0 = y1
        · subst hy
          rw [head_same]
          have hR := bx2_cells 66 w x0 y0 x0 y0
          go_enter Tryz.func55, Tryz.ntmps55
          go_wp2_with fail
          refine (pointOk_any _ _ _).mono ?_
          rintro e w1 ⟨rfl, hb1⟩
          have g1 : Bel (bx2 66 w x0 y0 x0 y0) w1 := hb1
          clear hb1
          go_wp2_with fail
          refine (pointOk_any _ _ _).mono ?_
          rintro e w2 ⟨rfl, hb2⟩
          have g2 : Bel (bx2 66 w x0 y0 x0 y0) w2 := bel_step g1 hb2
          clear hb2 g1
          go_wp2
          go_ret
          exact ⟨rfl, bel_step (bx2_bel 66 w x0 y0 x0 y0) g2⟩
        · rw [head_ok h0 h1 (by omega)]
          have he : (y0 == y1) = false := by simp; exact hy
          have hz : ab (x0 - x0) = 0 := by unfold ab; omega
          by_cases hs : 0 < y1 - y0
          · rw [wind_2 (by unfold ab; omega) (by unfold ab; omega) hs]
            exact headZ_0 _ _ _ _ hT h0 h1 he hs
          · rw [wind_3 (by unfold ab; omega) (by unfold ab; omega) (by omega)]
            exact headZ_1 _ _ _ _ hT h0 h1 he (by omega)
      · rw [head_ok h0 h1 (by omega)]
        have he : (x0 == x1) = false := by simp; exact hx
        by_cases hA : 5 * ab (y1 - y0) < 2 * ab (x1 - x0)
        · by_cases hs : 0 < x1 - x0
          · rw [wind_0 hA hs]; exact head_0 _ _ _ _ _ hT h0 h1 he hA hs
          · rw [wind_1 hA (by omega)]; exact head_1 _ _ _ _ _ hT h0 h1 he hA (by omega)
        · have hA : 2 * ab (x1 - x0) ≤ 5 * ab (y1 - y0) := by omega
          by_cases hB : 5 * ab (x1 - x0) < 2 * ab (y1 - y0)
          · by_cases hs : 0 < y1 - y0
            · rw [wind_2 hA hB hs]; exact head_2 _ _ _ _ _ hT h0 h1 he hA hB hs
            · have hs' : y1 - y0 < 0 := by unfold ab at hB; omega
              rw [wind_3 hA hB hs']; exact head_3 _ _ _ _ _ hT h0 h1 he hA hB hs'
          · have hB : 2 * ab (y1 - y0) ≤ 5 * ab (x1 - x0) := by omega
            by_cases hs : 0 < x1 - x0
            · by_cases ht : 0 < y1 - y0
              · rw [wind_4 hA hB hs ht]; exact head_4 _ _ _ _ _ hT h0 h1 he hA hB hs ht
              · have ht' : y1 - y0 < 0 := by unfold ab at hA; omega
                rw [wind_7 hA hB hs ht']; exact head_7 _ _ _ _ _ hT h0 h1 he hA hB hs ht'
            · have hs' : x1 - x0 < 0 := by omega
              by_cases ht : 0 < y1 - y0
              · rw [wind_5 hA hB hs' ht]; exact head_5 _ _ _ _ _ hT h0 h1 he hA hB hs' ht
              · have ht' : y1 - y0 < 0 := by unfold ab at hA; omega
                rw [wind_6 hA hB hs' ht']; exact head_6 _ _ _ _ _ hT h0 h1 he hA hB hs' ht'
    · have h1 : pok x1 y1 = false := by simpa using h1
      rw [head_not (.inr h1)]
      have hR := bx2_cells 66 w x0 y0 x1 y1
      go_enter Tryz.func55, Tryz.ntmps55
      go_wp2_with fail
      refine (pointOk_any _ _ _).mono ?_
      rintro e w1 ⟨rfl, hb1⟩
      have g1 : Bel (bx2 66 w x0 y0 x1 y1) w1 := hb1
      go_wp2_with fail
      refine (pointOk_any _ _ _).mono ?_
      rintro e w2 ⟨rfl, hb2⟩
      have g2 : Bel (bx2 66 w x0 y0 x1 y1) w2 := bel_step g1 hb2
      go_wp2
      go_ret
      exact ⟨rfl, bel_step (bx2_bel 66 w x0 y0 x1 y1) g2⟩
  · have h0 : pok x0 y0 = false := by simpa using h0
    rw [head_not (.inl h0)]
    have hR := bx2_cells 66 w x0 y0 x1 y1
    go_enter Tryz.func55, Tryz.ntmps55
    go_wp2_with fail
    refine (pointOk_any _ _ _).mono ?_
    rintro e w1 ⟨rfl, hb1⟩
    have g1 : Bel (bx2 66 w x0 y0 x1 y1) w1 := hb1
    go_wp2
    go_ret
    exact ⟨rfl, bel_step (bx2_bel 66 w x0 y0 x1 y1) g1⟩

end Go.Proofs.YtdlgehnoiaoneaaGreatDoor
