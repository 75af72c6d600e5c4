/-
  Contracts of Distance and of what it is made of, in the program and in its model: for every two points.
-/
import Derived.Test.YtkknbapcbcialaaRootC
import Derived.Deep.RegionHeld3
namespace Go.Proofs.Ytkknbapcbcialaa
open Go.RowKit

/-! ### Plain bounds -/
theorem mul_bd {u v : Int} (m : Int) (_hm : 0 ≤ m) (u0 : -m ≤ u) (u1 : u ≤ m) (v0 : -m ≤ v) (v1 : v ≤ m) : -(m * m) ≤ u * v ∧ u * v ≤ m * m := by
  have h1 : 0 ≤ (m - u) * (m + v) := Int.mul_nonneg (by omega) (by omega)
  have h2 : 0 ≤ (m + u) * (m - v) := Int.mul_nonneg (by omega) (by omega)
  have h3 : 0 ≤ (m - u) * (m - v) := Int.mul_nonneg (by omega) (by omega)
  have h4 : 0 ≤ (m + u) * (m + v) := Int.mul_nonneg (by omega) (by omega)
  simp only [Int.mul_add, Int.add_mul, Int.sub_mul, Int.mul_sub, Int.mul_comm m v] at h1 h2 h3 h4
  constructor <;> omega
theorem mul_bd7 {u v : Int} (u0 : -20000000 ≤ u) (u1 : u ≤ 20000000) (v0 : -20000000 ≤ v) (v1 : v ≤ 20000000) : -400000000000000 ≤ u * v ∧ u * v ≤ 400000000000000 := by
  have := mul_bd 20000000 (by decide) (u := u) (v := v) (by omega) u1 (by omega) v1
  omega
theorem sq_nonneg (u : Int) : 0 ≤ u * u := by
  rcases Int.le_total 0 u with h | h
  · exact Int.mul_nonneg h h
  · exact Int.mul_nonneg_of_nonpos_of_nonpos h h

/-- The square of the distance. -/
def dsq (x0 y0 x1 y1 : Int) : Int := (x1 - x0) * (x1 - x0) + (y1 - y0) * (y1 - y0)
/-- A point can be, as four bounds. -/
structure POk (x y : Int) : Prop where
  x0 : -10000000 ≤ x
  x1 : x ≤ 10000000
  y0 : -10000000 ≤ y
  y1 : y ≤ 10000000
theorem pOk_iff {x y : Int} : pok x y = true ↔ POk x y := by
  simp only [pok, Bool.and_eq_true, cok_iff]
  exact ⟨fun ⟨⟨a, b⟩, c, d⟩ => ⟨a, b, c, d⟩, fun ⟨a, b, c, d⟩ => ⟨⟨a, b⟩, c, d⟩⟩
theorem dsq_bd {x0 y0 x1 y1 : Int} (a : POk x0 y0) (b : POk x1 y1) : 0 ≤ dsq x0 y0 x1 y1 ∧ dsq x0 y0 x1 y1 ≤ 800000000000000 := by
  obtain ⟨_, _, _, _⟩ := a
  obtain ⟨_, _, _, _⟩ := b
  have h1 := sq_nonneg (x1 - x0)
  have h2 := sq_nonneg (y1 - y0)
  have h3 := mul_bd7 (u := x1 - x0) (v := x1 - x0) (by omega) (by omega) (by omega) (by omega)
  have h4 := mul_bd7 (u := y1 - y0) (v := y1 - y0) (by omega) (by omega) (by omega) (by omega)
  unfold dsq
  omega
/-- The distance of two points that can be. -/
def dOf (x0 y0 x1 y1 : Int) : Int := (rootOf (4 * dsq x0 y0 x1 y1) + 1) / 2
/-- The distance as both tell it. -/
def distOf (x0 y0 x1 y1 : Int) : Int := if pok x0 y0 && pok x1 y1 then dOf x0 y0 x1 y1 else -1
theorem dOf_bd {x0 y0 x1 y1 : Int} (a : POk x0 y0) (b : POk x1 y1) : 0 ≤ dOf x0 y0 x1 y1 ∧ dOf x0 y0 x1 y1 ≤ 28284272 := by
  have h := dsq_bd a b
  have h2 := rootOf_bd (m := 4 * dsq x0 y0 x1 y1) (by omega) (by omega)
  unfold dOf
  omega

/-! ### The walks -/
theorem minus_exact (x0 y0 x1 y1 : Int) (w : World) (a : POk x0 y0) (b : POk x1 y1) :
    Calls Try.prog 49 #[pt x0 y0, pt x1 y1] w fun e w' => e = .returned (pt (x0 - x1) (y0 - y1)) ∧
      w' = ((w.alloc (.cells #[.int .i64 x0, .int .i64 y0] 29)).alloc (.cells #[.int .i64 x1, .int .i64 y1] 29)).alloc (.cells #[.int .i64 (x0 - x1), .int .i64 (y0 - y1)] 29) := by
  obtain ⟨a0, a1, a2, a3⟩ := a
  obtain ⟨b0, b1, b2, b3⟩ := b
  go_enter Try.func49, Try.ntmps49
  go_wp2
  exact bodyPost_ret (v := pt (x0 - x1) (y0 - y1)) (by simp [results, Try.results49, go_sem]) rfl ⟨rfl, rfl⟩

theorem minus_any (x0 y0 x1 y1 : Int) (w : World) (a : POk x0 y0) (b : POk x1 y1) :
    Calls Try.prog 49 #[pt x0 y0, pt x1 y1] w fun e w' => e = .returned (pt (x0 - x1) (y0 - y1)) ∧ Bel w w' :=
  (minus_exact x0 y0 x1 y1 w a b).mono fun _ _ ⟨he, hw⟩ => ⟨he, by rw [hw]; exact bel_alloc (bel_alloc (bel_alloc (Bel.refl _) _) _) _⟩

theorem dot_any (x0 y0 x1 y1 : Int) (w : World) (p0 : -400000000000000 ≤ x0 * x1) (p1 : x0 * x1 ≤ 400000000000000) (q0 : -400000000000000 ≤ y0 * y1) (q1 : y0 * y1 ≤ 400000000000000) :
    Calls Try.prog 51 #[pt x0 y0, pt x1 y1] w fun e w' => e = .returned (.int .i64 (x0 * x1 + y0 * y1)) ∧ Bel w w' := by
  go_enter Try.func51, Try.ntmps51
  go_wp2
  go_ret
  exact ⟨rfl, (bel_alloc (bel_alloc (Bel.refl _) _) _)⟩

theorem distance_any (x0 y0 x1 y1 : Int) (w : World) :
    Calls Try.prog 21 #[pt x0 y0, pt x1 y1] w fun e w' => e = .returned (.int .i64 (distOf x0 y0 x1 y1)) ∧ Bel w w' := by
  by_cases h1 : pok x0 y0 = true
  · by_cases h2 : pok x1 y1 = true
    · have hd : distOf x0 y0 x1 y1 = dOf x0 y0 x1 y1 := by simp [distOf, h1, h2]
      rw [hd]; clear hd
      have a := pOk_iff.1 h1
      have b := pOk_iff.1 h2
      have gd := dsq_bd a b
      obtain ⟨r1, r2⟩ := rootOf_bd (m := 4 * dsq x0 y0 x1 y1) (by omega) (by omega)
      have hx := mul_bd7 (u := x1 - x0) (v := x1 - x0) (by have := a.x0; have := a.x1; have := b.x0; have := b.x1; omega) (by have := a.x0; have := a.x1; have := b.x0; have := b.x1; omega) (by have := a.x0; have := a.x1; have := b.x0; have := b.x1; omega) (by have := a.x0; have := a.x1; have := b.x0; have := b.x1; omega)
      have hy := mul_bd7 (u := y1 - y0) (v := y1 - y0) (by have := a.y0; have := a.y1; have := b.y0; have := b.y1; omega) (by have := a.y0; have := a.y1; have := b.y0; have := b.y1; omega) (by have := a.y0; have := a.y1; have := b.y0; have := b.y1; omega) (by have := a.y0; have := a.y1; have := b.y0; have := b.y1; omega)
      go_enter Try.func21, Try.ntmps21
      go_wp2_with fail
      refine (pointOk_any _ _ _).mono ?_
      rintro e w1 ⟨rfl, hb1⟩
      obtain ⟨hc1, hf1, hz1⟩ := bcell hb1
      have hy1 : w.heap.size < w1.heap.size := bel_lt hb1 (by simp; omega)
      have hy2 : w.heap.size + 1 < w1.heap.size := bel_lt hb1 (by simp)
      go_wp2_with fail
      refine (pointOk_any _ _ _).mono ?_
      rintro e w2 ⟨rfl, hb2⟩
      obtain ⟨hc2, hf2, hz2⟩ := bcell hb2
      go_wp2_with fail
      refine (minus_any _ _ _ _ _ b a).mono ?_
      rintro e w3 ⟨rfl, hb3⟩
      go_wp2_with fail
      refine (dot_any _ _ _ _ _ hx.1 hx.2 hy.1 hy.2).mono ?_
      rintro e w4 ⟨rfl, hb4⟩
      have he : (x1 - x0) * (x1 - x0) + (y1 - y0) * (y1 - y0) = dsq x0 y0 x1 y1 := rfl
      rw [he]
      clear he
      go_wp2_with fail
      refine (implRoot_any _ _ ⟨by omega, by omega⟩).mono ?_
      rintro e w5 ⟨rfl, rfl⟩
      go_wp2
      go_ret
      exact ⟨rfl, bel_step (bel_alloc (bel_step (bel_step (bel_step (bel_alloc (bel_alloc (Bel.refl _) _) _) hb1) hb2) hb3) _) hb4⟩
    · have h2 : pok x1 y1 = false := by simpa using h2
      have hd : distOf x0 y0 x1 y1 = -1 := by simp [distOf, h2]
      rw [hd]; clear hd
      go_enter Try.func21, Try.ntmps21
      go_wp2_with fail
      refine (pointOk_any _ _ _).mono ?_
      rintro e w1 ⟨rfl, hb1⟩
      obtain ⟨hc1, hf1, hz1⟩ := bcell hb1
      have hy1 : w.heap.size < w1.heap.size := bel_lt hb1 (by simp; omega)
      have hy2 : w.heap.size + 1 < w1.heap.size := bel_lt hb1 (by simp)
      go_wp2_with fail
      refine (pointOk_any _ _ _).mono ?_
      rintro e w2 ⟨rfl, hb2⟩
      go_wp2
      go_ret
      exact ⟨rfl, bel_step (bel_step (bel_alloc (bel_alloc (Bel.refl _) _) _) hb1) hb2⟩
  · have h1 : pok x0 y0 = false := by simpa using h1
    have hd : distOf x0 y0 x1 y1 = -1 := by simp [distOf, h1]
    rw [hd]; clear hd
    go_enter Try.func21, Try.ntmps21
    go_wp2_with fail
    refine (pointOk_any _ _ _).mono ?_
    rintro e w1 ⟨rfl, hb1⟩
    go_wp2
    go_ret
    exact ⟨rfl, bel_step (bel_alloc (bel_alloc (Bel.refl _) _) _) hb1⟩

end Go.Proofs.Ytkknbapcbcialaa
