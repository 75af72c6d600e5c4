/-
  Contracts of Distance and of what it is made of, in the program and in its model: for every two points.
-/
import Derived.Test.YtonedkibbdbgjaaRootC
import Derived.Deep.RegionHeld3
namespace Go.Proofs.Ytonedkibbdbgjaa
open Go.RowKit

/-! ### Plain bounds -/
theorem mul_bd {u v : Int} (m : Int) (_hm : 0 ≤ m) (u0 : -m ≤ u) (u1 : u ≤ m) (v0 : -m ≤ v) (v1 : v ≤ m) : -(m * m) ≤ u * v ∧ u * v ≤ m * m := by
  have h1 : 0 ≤ (m - u) * (m + v) := Int.mul_nonneg (by omega) (by omega)
  have h2 : 0 ≤ (m + u) * (m - v) := Int.mul_nonneg (by omega) (by omega)
  have h3 : 0 ≤ (m - u) * (m - v) := Int.mul_nonneg (by omega) (by omega)
  have h4 : 0 ≤ (m + u) * (m + v) := Int.mul_nonneg (by omega) (by omega)
  simp only [Int.mul_add, Int.add_mul, Int.sub_mul, Int.mul_sub, Int.mul_comm m v] at h1 h2 h3 h4
  constructor <;> omega
theorem mul_bd7 {u v : Int} (u0 : -20000000 ≤ u) (u1 : u ≤ 20000000) (v0 : -20000000 ≤ v) (v1 : v ≤ 20000000) : -400000000000000 ≤ u * v ∧ u * v ≤ 400000000000000 := by
  have := mul_bd 20000000 (by decide) (u := u) (v := v) (by omega) u1 (by omega) v1
  omega
theorem sq_nonneg (u : Int) : 0 ≤ u * u := by
  rcases Int.le_total 0 u with h | h
  · exact Int.mul_nonneg h h
  · exact Int.mul_nonneg_of_nonpos_of_nonpos h h

/-- The square of the distance. -/
def dsq (x0 y0 x1 y1 : Int) : Int := (x1 - x0) * (x1 - x0) + (y1 - y0) * (y1 - y0)
/-- A point can be, as four bounds. -/
structure POk (x y : Int) : Prop where
  x0 : -10000000 ≤ x
  x1 : x ≤ 10000000
  y0 : -10000000 ≤ y
  y1 : y ≤ 10000000
theorem pOk_iff {x y : Int} : pok x y = true ↔ POk x y := by
  simp only [pok, Bool.and_eq_true, cok_iff]
  exact ⟨fun ⟨⟨a, b⟩, c, d⟩ => ⟨a, b, c, d⟩, fun ⟨a, b, c, d⟩ => ⟨⟨a, b⟩, c, d⟩⟩
theorem dsq_bd {x0 y0 x1 y1 : Int} (a : POk x0 y0) (b : POk x1 y1) : 0 ≤ dsq x0 y0 x1 y1 ∧ dsq x0 y0 x1 y1 ≤ 800000000000000 := by
  obtain ⟨_, _, _, _⟩ := a
  obtain ⟨_, _, _, _⟩ := b
  have h1 := sq_nonneg (x1 - x0)
  have h2 := sq_nonneg (y1 - y0)
  have h3 := mul_bd7 (u := x1 - x0) (v := x1 - x0) (by omega) (by omega) (by omega) (by omega)
  have h4 := mul_bd7 (u := y1 - y0) (v := y1 - y0) (by omega) (by omega) (by omega) (by omega)
  unfold dsq
  omega
/-- The distance of two points that can be. -/
def dOf (x0 y0 x1 y1 : Int) : Int := (rootOf (4 * dsq x0 y0 x1 y1) + 1) / 2
/-- The distance as both tell it. -/
def distOf (x0 y0 x1 y1 : Int) : Int := if pok x0 y0 && pok x1 y1 then dOf x0 y0 x1 y1 else -1
theorem dOf_bd {x0 y0 x1 y1 : Int} (a : POk x0 y0) (b : POk x1 y1) : 0 ≤ dOf x0 y0 x1 y1 ∧ dOf x0 y0 x1 y1 ≤ 28284272 := by
  have h := dsq_bd a b
  have h2 := rootOf_bd (m := 4 * dsq x0 y0 x1 y1) (by omega) (by omega)
  unfold dOf
  omega

/-! ### The walks -/
end Go.Proofs.Ytonedkibbdbgjaa
