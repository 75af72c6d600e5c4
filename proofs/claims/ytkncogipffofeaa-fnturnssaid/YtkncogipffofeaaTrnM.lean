/-
  What turns and crossings have in common from all sides.
-/
import Derived.Test.YtkncogipffofeaaCrossC
namespace Go.Proofs.Ytkncogipffofeaa
open Go.RowKit

theorem sgn_min (n : Int) : sgn (-n) = - sgn n := by unfold sgn; split <;> split <;> (try split) <;> omega
theorem trn_back (x0 y0 x1 y1 x2 y2 : Int) : trn x2 y2 x1 y1 x0 y0 = - trn x0 y0 x1 y1 x2 y2 := by unfold trn; grind
theorem trn_on (x0 y0 x1 y1 x2 y2 : Int) : trn x1 y1 x2 y2 x0 y0 = trn x0 y0 x1 y1 x2 y2 := by unfold trn; grind
theorem trn_same (x0 y0 x2 y2 : Int) : trn x0 y0 x0 y0 x2 y2 = 0 := by unfold trn; grind
theorem trn_end (x0 y0 x1 y1 : Int) : trn x0 y0 x1 y1 x0 y0 = 0 := by unfold trn; grind
theorem trn_flip (x0 y0 x1 y1 x2 y2 : Int) : trn x1 y1 x0 y0 x2 y2 = - trn x0 y0 x1 y1 x2 y2 := by unfold trn; grind
theorem sgn_not2 (n : Int) : sgn n ≠ 2 ∧ -1 ≤ sgn n ∧ sgn n ≤ 1 := by unfold sgn; split <;> (try split) <;> omega
theorem turn_two {x0 y0 x1 y1 x2 y2 : Int} (h : turnOf x0 y0 x1 y1 x2 y2 = 2) : (pok x0 y0 && pok x1 y1 && pok x2 y2) = false := by
  unfold turnOf at h
  by_cases c : (pok x0 y0 && pok x1 y1 && pok x2 y2) = true
  · rw [if_pos c] at h; exact absurd h (sgn_not2 _).1
  · simpa using c
theorem turn_ok3 {x0 y0 x1 y1 x2 y2 : Int} (h : turnOf x0 y0 x1 y1 x2 y2 ≠ 2) : pok x0 y0 = true ∧ pok x1 y1 = true ∧ pok x2 y2 = true ∧ turnOf x0 y0 x1 y1 x2 y2 = sgn (trn x0 y0 x1 y1 x2 y2) := by
  unfold turnOf at h ⊢
  by_cases c : (pok x0 y0 && pok x1 y1 && pok x2 y2) = true
  · rw [if_pos c]
    simp only [Bool.and_eq_true] at c
    exact ⟨c.1.1, c.1.2, c.2, rfl⟩
  · rw [if_neg c] at h; exact absurd rfl h
theorem turn_of {x0 y0 x1 y1 x2 y2 : Int} (h0 : pok x0 y0 = true) (h1 : pok x1 y1 = true) (h2 : pok x2 y2 = true) : turnOf x0 y0 x1 y1 x2 y2 = sgn (trn x0 y0 x1 y1 x2 y2) := by
  unfold turnOf; rw [h0, h1, h2]; rfl
/-- A turn from the other sides. -/
theorem turn_all {x0 y0 x1 y1 x2 y2 : Int} (h : turnOf x0 y0 x1 y1 x2 y2 ≠ 2) : turnOf x2 y2 x1 y1 x0 y0 = - turnOf x0 y0 x1 y1 x2 y2 ∧ turnOf x1 y1 x2 y2 x0 y0 = turnOf x0 y0 x1 y1 x2 y2 ∧ turnOf x0 y0 x0 y0 x2 y2 = 0 ∧ -1 ≤ turnOf x0 y0 x1 y1 x2 y2 ∧ turnOf x0 y0 x1 y1 x2 y2 ≤ 1 := by
  obtain ⟨p0, p1, p2, e⟩ := turn_ok3 h
  rw [e, turn_of p2 p1 p0, turn_of p1 p2 p0, turn_of p0 p0 p2, trn_back x0 y0 x1 y1 x2 y2, trn_on x0 y0 x1 y1 x2 y2, trn_same x0 y0 x2 y2, sgn_min (trn x0 y0 x1 y1 x2 y2)]
  have := sgn_not2 (trn x0 y0 x1 y1 x2 y2)
  exact ⟨rfl, rfl, rfl, this.2.1, this.2.2⟩
theorem btw_flip (x p q : Int) : btwB x q p = btwB x p q := by unfold btwB; rw [Bool.or_comm]
theorem on_flip (ax ay bx bY px py : Int) : onB bx bY ax ay px py = onB ax ay bx bY px py := by
  have e : (sgn (trn bx bY ax ay px py) == 0) = (sgn (trn ax ay bx bY px py) == 0) := by
    rw [trn_flip, sgn_min]
    generalize sgn (trn ax ay bx bY px py) = s
    by_cases h : s = 0
    · subst h; rfl
    · rw [show (s == 0) = false by simpa using h, show (-s == 0) = false by simp; omega]
  unfold onB
  rw [e, btw_flip px, btw_flip py]
theorem crS_swap (x0 y0 x1 y1 x2 y2 x3 y3 : Int) : crS x2 y2 x3 y3 x0 y0 x1 y1 = crS x0 y0 x1 y1 x2 y2 x3 y3 := by
  unfold crS
  generalize onB x0 y0 x1 y1 x2 y2 = a
  generalize onB x0 y0 x1 y1 x3 y3 = b
  generalize onB x2 y2 x3 y3 x0 y0 = c
  generalize onB x2 y2 x3 y3 x1 y1 = d
  rw [Bool.and_comm]
  cases a <;> cases b <;> cases c <;> cases d <;> rfl
theorem crS_flip (x0 y0 x1 y1 x2 y2 x3 y3 : Int) : crS x1 y1 x0 y0 x3 y3 x2 y2 = crS x0 y0 x1 y1 x2 y2 x3 y3 := by
  unfold crS
  rw [on_flip x0 y0 x1 y1 x3 y3, on_flip x0 y0 x1 y1 x2 y2, on_flip x2 y2 x3 y3 x1 y1, on_flip x2 y2 x3 y3 x0 y0]
  have e1 : sgn (trn x1 y1 x0 y0 x3 y3) * sgn (trn x1 y1 x0 y0 x2 y2) = sgn (trn x0 y0 x1 y1 x2 y2) * sgn (trn x0 y0 x1 y1 x3 y3) := by
    rw [trn_flip x0 y0 x1 y1 x3 y3, trn_flip x0 y0 x1 y1 x2 y2, sgn_min, sgn_min, Int.neg_mul_neg, Int.mul_comm]
  have e2 : sgn (trn x3 y3 x2 y2 x1 y1) * sgn (trn x3 y3 x2 y2 x0 y0) = sgn (trn x2 y2 x3 y3 x0 y0) * sgn (trn x2 y2 x3 y3 x1 y1) := by
    rw [trn_flip x2 y2 x3 y3 x1 y1, trn_flip x2 y2 x3 y3 x0 y0, sgn_min, sgn_min, Int.neg_mul_neg, Int.mul_comm]
  rw [e1, e2]
  generalize onB x0 y0 x1 y1 x2 y2 = a
  generalize onB x0 y0 x1 y1 x3 y3 = b
  generalize onB x2 y2 x3 y3 x0 y0 = c
  generalize onB x2 y2 x3 y3 x1 y1 = d
  cases a <;> cases b <;> cases c <;> cases d <;> rfl
theorem cross_swap (x0 y0 x1 y1 x2 y2 x3 y3 : Int) : crossOf x2 y2 x3 y3 x0 y0 x1 y1 = crossOf x0 y0 x1 y1 x2 y2 x3 y3 := by
  unfold crossOf
  rw [crS_swap]
  generalize pok x0 y0 = a
  generalize pok x1 y1 = b
  generalize pok x2 y2 = c
  generalize pok x3 y3 = d
  cases a <;> cases b <;> cases c <;> cases d <;> rfl
theorem cross_flip (x0 y0 x1 y1 x2 y2 x3 y3 : Int) : crossOf x1 y1 x0 y0 x3 y3 x2 y2 = crossOf x0 y0 x1 y1 x2 y2 x3 y3 := by
  unfold crossOf
  rw [crS_flip]
  generalize pok x0 y0 = a
  generalize pok x1 y1 = b
  generalize pok x2 y2 = c
  generalize pok x3 y3 = d
  cases a <;> cases b <;> cases c <;> cases d <;> rfl
theorem cross_self {x0 y0 x1 y1 : Int} (h0 : pok x0 y0 = true) (h1 : pok x1 y1 = true) : crossOf x0 y0 x1 y1 x0 y0 x1 y1 = true := by
  have e : onB x0 y0 x1 y1 x0 y0 = true := onB_iff.2 ⟨trn_end _ _ _ _, by unfold Btw; omega, by unfold Btw; omega⟩
  unfold crossOf crS
  rw [h0, h1, e]; rfl
end Go.Proofs.Ytkncogipffofeaa
