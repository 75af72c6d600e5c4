/-
  Contracts of Cross and of what it is made of, in the program and in its model: for every four points.
-/
import Derived.Test.YtkpgcnfokohhiaaCrossM
namespace Go.Proofs.Ytkpgcnfokohhiaa
open Go.RowKit

theorem ret_bool {a b : Bool} (h : a = b) : Ending.returned (.bool a) = .returned (.bool b) := by rw [h]

theorem boxOf_any (x0 y0 x1 y1 : Int) (w : World) :
    Calls Try.prog 33 #[pt x0 y0, pt x1 y1] w fun e w' => e = .returned (.agg #[.int .i64 (min x0 x1), .int .i64 (min y0 y1), .int .i64 (max x0 x1), .int .i64 (max y0 y1)]) ∧ Bel w w' := by
  go_enter Try.func33, Try.ntmps33
  go_wp2
  exact bodyPost_ret (v := .agg #[.int .i64 (min x0 x1), .int .i64 (min y0 y1), .int .i64 (max x0 x1), .int .i64 (max y0 y1)]) (by simp [results, Try.results33, go_sem]) rfl ⟨rfl, bel_alloc (bel_alloc (bel_alloc (Bel.refl _) _) _) _⟩

/-- Two boxes meet. -/
def boxB (a b c d e f g h : Int) : Bool := decide (a ≤ g) && (decide (e ≤ c) && (decide (b ≤ h) && decide (f ≤ d)))
/-- x lies between p and q, as a Bool. -/
def btwB (x p q : Int) : Bool := (decide (p ≤ x) && decide (x ≤ q)) || (decide (q ≤ x) && decide (x ≤ p))
theorem btwB_iff {x p q : Int} : btwB x p q = true ↔ Btw x p q := by simp [btwB, Btw]
/-- p lies on the stretch from a to b, as a Bool. -/
def onB (ax ay bx bY px py : Int) : Bool := (sgn (trn ax ay bx bY px py) == 0) && (btwB px ax bx && btwB py ay bY)
theorem sgn_eq_zero {n : Int} : sgn n = 0 ↔ n = 0 := by unfold sgn; split <;> (try split) <;> omega
theorem onB_iff {ax ay bx bY px py : Int} : onB ax ay bx bY px py = true ↔ OnS ax ay bx bY px py := by
  simp [onB, OnS, btwB_iff, sgn_eq_zero]

theorem sgn_mul_bd (m n : Int) : -1 ≤ sgn m * sgn n ∧ sgn m * sgn n ≤ 1 := by
  have h1 := sgn_bd m
  have h2 := sgn_bd n
  have := mul_bd 1 (by decide) h1.1 h1.2 h2.1 h2.2
  omega
theorem wrap_sgn (m n : Int) : IntKind.i64.wrap (sgn m * sgn n) = sgn m * sgn n := by
  have h := sgn_mul_bd m n
  rw [IntKind.wrap_i64]
  omega
theorem sgn_mul_le {m n : Int} : sgn m * sgn n ≤ 0 ↔ m * n ≤ 0 := by
  constructor
  · intro h
    exact np_mul (by have := mul_np h; unfold sgn at this; split at this <;> split at this <;> (try split at this) <;> (try split at this) <;> omega)
  · intro h
    exact np_mul (by have := mul_np h; unfold sgn; split <;> split <;> (try split) <;> (try split) <;> omega)
theorem sgn_mul_lt {m n : Int} : sgn m * sgn n < 0 ↔ m * n < 0 := by
  have h1 : sgn m * sgn n = 0 ↔ m * n = 0 := by rw [Int.mul_eq_zero, Int.mul_eq_zero, sgn_eq_zero, sgn_eq_zero]
  have h2 := @sgn_mul_le m n
  omega

/-- Cross as the model reckons it, of points that can be. -/
def crS (x0 y0 x1 y1 x2 y2 x3 y3 : Int) : Bool := onB x0 y0 x1 y1 x2 y2 || (onB x0 y0 x1 y1 x3 y3 || (onB x2 y2 x3 y3 x0 y0 || (onB x2 y2 x3 y3 x1 y1 || (decide (sgn (trn x0 y0 x1 y1 x2 y2) * sgn (trn x0 y0 x1 y1 x3 y3) < 0) && decide (sgn (trn x2 y2 x3 y3 x0 y0) * sgn (trn x2 y2 x3 y3 x1 y1) < 0)))))
/-- Cross as the program reckons it, of points that can be. -/
def crI (x0 y0 x1 y1 x2 y2 x3 y3 : Int) : Bool := boxB (min x0 x1) (min y0 y1) (max x0 x1) (max y0 y1) (min x2 x3) (min y2 y3) (max x2 x3) (max y2 y3) && (decide (sgn (trn x0 y0 x1 y1 x2 y2) * sgn (trn x0 y0 x1 y1 x3 y3) ≤ 0) && decide (sgn (trn x2 y2 x3 y3 x0 y0) * sgn (trn x2 y2 x3 y3 x1 y1) ≤ 0))
theorem crS_eq (x0 y0 x1 y1 x2 y2 x3 y3 : Int) : crI x0 y0 x1 y1 x2 y2 x3 y3 = crS x0 y0 x1 y1 x2 y2 x3 y3 := by
  rw [Bool.eq_iff_iff]
  have := cross_iff x0 y0 x1 y1 x2 y2 x3 y3
  simp only [crS, crI, Bool.or_eq_true, Bool.and_eq_true, decide_eq_true_eq, onB_iff, sgn_mul_lt, sgn_mul_le, boxB]
  unfold Meet at this
  rw [this]
/-- Cross as both tell it. -/
def crossOf (x0 y0 x1 y1 x2 y2 x3 y3 : Int) : Bool := pok x0 y0 && (pok x1 y1 && (pok x2 y2 && (pok x3 y3 && crS x0 y0 x1 y1 x2 y2 x3 y3)))

theorem turn_ok (x0 y0 x1 y1 x2 y2 : Int) (w : World) (a : POk x0 y0) (b : POk x1 y1) (c : POk x2 y2) :
    Calls Try.prog 35 #[pt x0 y0, pt x1 y1, pt x2 y2] w fun e w' => e = .returned (.int .i64 (sgn (trn x0 y0 x1 y1 x2 y2))) ∧ Bel w w' := by
  have hd : turnOf x0 y0 x1 y1 x2 y2 = sgn (trn x0 y0 x1 y1 x2 y2) := by simp [turnOf, pOk_iff.2 a, pOk_iff.2 b, pOk_iff.2 c]
  rw [← hd]
  exact turn_any _ _ _ _ _ _ _

end Go.Proofs.Ytkpgcnfokohhiaa
