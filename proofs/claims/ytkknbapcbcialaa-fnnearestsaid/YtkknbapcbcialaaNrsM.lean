/-
  The nearest place of a row and its corners: plain mathematics.
-/
import Derived.Test.YtkknbapcbcialaaSmpN
namespace Go.Proofs.Ytkknbapcbcialaa
open Go.RowKit

theorem sq_le_of {x y : Int} (hy : 0 ≤ y) (h : x * x ≤ y * y) : x ≤ y := by
  rcases Int.lt_or_le y x with h1 | h1
  · have h2 : y * y < x * x := by
      have a1 : y * y ≤ y * x := Int.mul_le_mul_of_nonneg_left (Int.le_of_lt h1) hy
      have a2 : y * x < x * x := Int.mul_lt_mul_of_pos_right h1 (by omega)
      omega
    omega
  · exact h1
/-- Cauchy. -/
theorem cauchy (a b c d : Int) : (a * c + b * d) * (a * c + b * d) ≤ (a * a + b * b) * (c * c + d * d) := by
  have h : 0 ≤ (a * d - b * c) * (a * d - b * c) := sq_nonneg _
  have e : (a * a + b * b) * (c * c + d * d) = (a * c + b * d) * (a * c + b * d) + (a * d - b * c) * (a * d - b * c) := by grind
  omega
/-- What rounding down leaves. -/
theorem floor_rest {n W : Int} (hW : 0 < W) : ∃ e, n = W * (n / W) + e ∧ 0 ≤ e ∧ e < W :=
  ⟨n % W, (Int.mul_ediv_add_emod n W).symm, Int.emod_nonneg _ (by omega), Int.emod_lt_of_pos _ hW⟩
/-- A place that was rounded down lies no farther off than a corner, and two. -/
theorem round_far {ux uy vx vy W t sx sy ex ey C D : Int} (hW : 0 < W) (eW : W = ux * ux + uy * uy) (et : t = ux * vx + uy * vy) (e1 : ux * t = W * sx + ex) (e2 : uy * t = W * sy + ey) (x0 : 0 ≤ ex) (x1 : ex < W) (y0 : 0 ≤ ey) (y1 : ey < W)
    (hC : C = vx * vx + vy * vy ∨ C = (vx - ux) * (vx - ux) + (vy - uy) * (vy - uy)) (hD : 0 ≤ D) (hCD : C ≤ D * D + D) :
    4 * ((vx - sx) * (vx - sx) + (vy - sy) * (vy - sy)) < (2 * D + 4) * (2 * D + 4) := by
  obtain ⟨gx, hgx⟩ : ∃ g, g = W * vx - ux * t := ⟨_, rfl⟩
  obtain ⟨gy, hgy⟩ : ∃ g, g = W * vy - uy * t := ⟨_, rfl⟩
  -- the foot stands at a right angle
  have hg0 : gx * ux + gy * uy = 0 := by subst hgx hgy; grind
  have fx : W * (vx - sx) = gx + ex := by subst hgx; grind
  have fy : W * (vy - sy) = gy + ey := by subst hgy; grind
  have hG : gx * gx + gy * gy ≤ W * W * C := by
    rcases hC with h | h
    · have e : W * W * C = gx * gx + gy * gy + t * t * W + 2 * t * (gx * ux + gy * uy) := by
        rw [h]
        have a1 : W * vx = gx + ux * t := by omega
        have a2 : W * vy = gy + uy * t := by omega
        have : W * W * (vx * vx + vy * vy) = (W * vx) * (W * vx) + (W * vy) * (W * vy) := by grind
        rw [this, a1, a2, eW]
        grind
      rw [hg0] at e
      have := Int.mul_nonneg (sq_nonneg t) (Int.le_of_lt hW)
      omega
    · have e : W * W * C = gx * gx + gy * gy + (t - W) * (t - W) * W + 2 * (t - W) * (gx * ux + gy * uy) := by
        rw [h]
        have a1 : W * (vx - ux) = gx + ux * (t - W) := by subst hgx; grind
        have a2 : W * (vy - uy) = gy + uy * (t - W) := by subst hgy; grind
        have : W * W * ((vx - ux) * (vx - ux) + (vy - uy) * (vy - uy)) = (W * (vx - ux)) * (W * (vx - ux)) + (W * (vy - uy)) * (W * (vy - uy)) := by grind
        rw [this, a1, a2]
        have e2 : ∀ s : Int, (gx + ux * s) * (gx + ux * s) + (gy + uy * s) * (gy + uy * s) = gx * gx + gy * gy + s * s * (ux * ux + uy * uy) + 2 * s * (gx * ux + gy * uy) := fun s => by grind
        rw [e2, ← eW]
      rw [hg0] at e
      have := Int.mul_nonneg (sq_nonneg (t - W)) (Int.le_of_lt hW)
      omega
  have hWW : 0 < W * W := Int.mul_pos hW hW
  have hE : ex * ex + ey * ey ≤ 2 * (W * W) := by
    have a1 := Int.mul_le_mul (Int.le_of_lt x1) (Int.le_of_lt x1) x0 (Int.le_of_lt hW)
    have a2 := Int.mul_le_mul (Int.le_of_lt y1) (Int.le_of_lt y1) y0 (Int.le_of_lt hW)
    omega
  have hG2 : gx * gx + gy * gy ≤ W * W * (D * D + D) := Int.le_trans hG (Int.mul_le_mul_of_nonneg_left hCD (Int.le_of_lt hWW))
  obtain ⟨d, hd⟩ : ∃ d, d = gx * ex + gy * ey := ⟨_, rfl⟩
  have hG0 : 0 ≤ gx * gx + gy * gy := by have := sq_nonneg gx; have := sq_nonneg gy; omega
  have hdd : d * d ≤ (W * W * (D * D + D)) * (2 * (W * W)) := by
    rw [hd]
    exact Int.le_trans (cauchy gx gy ex ey) (Int.mul_le_mul hG2 hE (by have := sq_nonneg ex; have := sq_nonneg ey; omega) (by omega))
  have h4 : 4 * d ≤ W * W * (6 * D + 3) := by
    refine sq_le_of (Int.mul_nonneg (Int.le_of_lt hWW) (by omega)) ?_
    have k1 : (4 * d) * (4 * d) = 16 * (d * d) := by grind
    have k2 : W * W * (6 * D + 3) * (W * W * (6 * D + 3)) = (W * W) * (W * W) * (36 * (D * D + D) + 9) := by grind
    have k3 : (W * W * (D * D + D)) * (2 * (W * W)) = (W * W) * (W * W) * (2 * (D * D + D)) := by grind
    rw [k1, k2]
    rw [k3] at hdd
    have q0 : 0 ≤ (W * W) * (W * W) := Int.mul_nonneg (Int.le_of_lt hWW) (Int.le_of_lt hWW)
    have q1 : 0 ≤ D * D + D := by have := sq_nonneg D; omega
    have k4 : (W * W) * (W * W) * (36 * (D * D + D) + 9) = 16 * ((W * W) * (W * W) * (2 * (D * D + D))) + (W * W) * (W * W) * (4 * (D * D + D) + 9) := by grind
    have := Int.mul_nonneg q0 (show 0 ≤ 4 * (D * D + D) + 9 by omega)
    omega
  have hF : W * W * ((vx - sx) * (vx - sx) + (vy - sy) * (vy - sy)) = gx * gx + gy * gy + 2 * d + (ex * ex + ey * ey) := by
    have : W * W * ((vx - sx) * (vx - sx) + (vy - sy) * (vy - sy)) = (W * (vx - sx)) * (W * (vx - sx)) + (W * (vy - sy)) * (W * (vy - sy)) := by grind
    rw [this, fx, fy, hd]
    grind
  generalize (vx - sx) * (vx - sx) + (vy - sy) * (vy - sy) = F at hF ⊢
  have k5 : W * W * (D * D + D) * 4 + W * W * (6 * D + 3) * 2 + W * W * 8 = W * W * (4 * (D * D) + 16 * D + 14) := by grind
  have k6 : W * W * (4 * F) ≤ W * W * (4 * (D * D) + 16 * D + 14) := by
    have k7 : W * W * (4 * F) = 4 * (W * W * F) := by grind
    omega
  have k8 := Int.le_of_mul_le_mul_left k6 hWW
  have k9 : (2 * D + 4) * (2 * D + 4) = 4 * (D * D) + 16 * D + 16 := by grind
  omega
end Go.Proofs.Ytkknbapcbcialaa
