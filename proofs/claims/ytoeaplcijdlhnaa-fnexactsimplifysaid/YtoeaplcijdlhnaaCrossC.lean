/-
  Contracts of Cross and of what it is made of, in the program and in its model: for every four points.
-/
import Derived.Test.YtoeaplcijdlhnaaCrossM
namespace Go.Proofs.Ytoeaplcijdlhnaa
open Go.RowKit

theorem ret_bool {a b : Bool} (h : a = b) : Ending.returned (.bool a) = .returned (.bool b) := by rw [h]

theorem boxOf_any (x0 y0 x1 y1 : Int) (w : World) :
    Calls Try.prog 51 #[pt x0 y0, pt x1 y1] w fun e w' => e = .returned (.agg #[.int .i64 (min x0 x1), .int .i64 (min y0 y1), .int .i64 (max x0 x1), .int .i64 (max y0 y1)]) ∧ Bel w w' := by
  go_enter Try.func51, Try.ntmps51
  go_wp2
  exact bodyPost_ret (v := .agg #[.int .i64 (min x0 x1), .int .i64 (min y0 y1), .int .i64 (max x0 x1), .int .i64 (max y0 y1)]) (by simp [results, Try.results51, go_sem]) rfl ⟨rfl, bel_alloc (bel_alloc (bel_alloc (Bel.refl _) _) _) _⟩

/-- Two boxes meet. -/
def boxB (a b c d e f g h : Int) : Bool := decide (a ≤ g) && (decide (e ≤ c) && (decide (b ≤ h) && decide (f ≤ d)))
theorem boxesMeet_any (a b c d e f g h : Int) (w : World) :
    Calls Try.prog 50 #[.agg #[.int .i64 a, .int .i64 b, .int .i64 c, .int .i64 d], .agg #[.int .i64 e, .int .i64 f, .int .i64 g, .int .i64 h]] w fun r w' => r = .returned (.bool (boxB a b c d e f g h)) ∧ Bel w w' := by
  by_cases h1 : a ≤ g
  · by_cases h2 : e ≤ c
    · by_cases h3 : b ≤ h
      · have hv : boxB a b c d e f g h = decide (f ≤ d) := by simp [boxB, h1, h2, h3]
        rw [hv]; clear hv
        go_enter Try.func50, Try.ntmps50
        go_wp2
        all_goals (go_ret; exact ⟨rfl, bel_alloc (bel_alloc (Bel.refl _) _) _⟩)
      · have hv : boxB a b c d e f g h = false := by simp [boxB, h3]
        rw [hv]; clear hv
        go_enter Try.func50, Try.ntmps50
        go_wp2
        go_ret
        exact ⟨rfl, bel_alloc (bel_alloc (Bel.refl _) _) _⟩
    · have hv : boxB a b c d e f g h = false := by simp [boxB, h2]
      rw [hv]; clear hv
      go_enter Try.func50, Try.ntmps50
      go_wp2
      go_ret
      exact ⟨rfl, bel_alloc (bel_alloc (Bel.refl _) _) _⟩
  · have hv : boxB a b c d e f g h = false := by simp [boxB, h1]
    rw [hv]; clear hv
    go_enter Try.func50, Try.ntmps50
    go_wp2
    go_ret
    exact ⟨rfl, bel_alloc (bel_alloc (Bel.refl _) _) _⟩

/-- x lies between p and q, as a Bool. -/
def btwB (x p q : Int) : Bool := (decide (p ≤ x) && decide (x ≤ q)) || (decide (q ≤ x) && decide (x ≤ p))
theorem btwB_iff {x p q : Int} : btwB x p q = true ↔ Btw x p q := by simp [btwB, Btw]
theorem between_any (x p q : Int) (w : World) :
    Calls Try.prog 63 #[.int .i64 x, .int .i64 p, .int .i64 q] w fun e w' => e = .returned (.bool (btwB x p q)) ∧ w' = w := by
  go_enter Try.func63, Try.ntmps63
  go_wp2
  all_goals (go_ret; exact ⟨ret_bool (by rw [Bool.eq_iff_iff]; simp [btwB]; omega), rfl⟩)

/-- p lies on the stretch from a to b, as a Bool. -/
def onB (ax ay bx bY px py : Int) : Bool := (sgn (trn ax ay bx bY px py) == 0) && (btwB px ax bx && btwB py ay bY)
theorem sgn_eq_zero {n : Int} : sgn n = 0 ↔ n = 0 := by unfold sgn; split <;> (try split) <;> omega
theorem onB_iff {ax ay bx bY px py : Int} : onB ax ay bx bY px py = true ↔ OnS ax ay bx bY px py := by
  simp [onB, OnS, btwB_iff, sgn_eq_zero]

theorem l1On_any (x0 y0 x1 y1 x2 y2 : Int) (w : World) (a : POk x0 y0) (b : POk x1 y1) (c : POk x2 y2) :
    Calls Try.prog 59 #[pt x0 y0, pt x1 y1, pt x2 y2] w fun e w' => e = .returned (.bool (onB x0 y0 x1 y1 x2 y2)) ∧ Bel w w' := by
  have hR := bx3_cells 25 w x0 y0 x1 y1 x2 y2
  by_cases h1 : (sgn (trn x0 y0 x1 y1 x2 y2) == 0) = true
  · by_cases h2 : btwB x2 x0 x1 = true
    · skip
      have hv : onB x0 y0 x1 y1 x2 y2 = btwB y2 y0 y1 := by simp [onB, h1, h2]
      rw [hv]; clear hv
      go_enter Try.func59, Try.ntmps59
      go_wp2_with fail
      refine (l1Turn_any _ _ _ _ _ _ _ a b c).mono ?_
      rintro e w1 ⟨rfl, hb1⟩
      have g1 : Bel (bx3 25 w x0 y0 x1 y1 x2 y2) w1 := hb1
      clear hb1
      go_wp2_with fail
      refine (between_any _ _ _ _).mono ?_
      rintro e w2 ⟨rfl, rfl⟩
      go_wp2_with fail
      refine (between_any _ _ _ _).mono ?_
      rintro e w2 ⟨rfl, rfl⟩
      go_wp2
      go_ret
      exact ⟨rfl, bel_step (bx3_bel 25 w x0 y0 x1 y1 x2 y2) g1⟩
    · have h2 : btwB x2 x0 x1 = false := by simpa using h2
      have hv : onB x0 y0 x1 y1 x2 y2 = false := by simp [onB, h2]
      rw [hv]; clear hv
      go_enter Try.func59, Try.ntmps59
      go_wp2_with fail
      refine (l1Turn_any _ _ _ _ _ _ _ a b c).mono ?_
      rintro e w1 ⟨rfl, hb1⟩
      have g1 : Bel (bx3 25 w x0 y0 x1 y1 x2 y2) w1 := hb1
      clear hb1
      go_wp2_with fail
      refine (between_any _ _ _ _).mono ?_
      rintro e w2 ⟨rfl, rfl⟩
      go_wp2
      go_ret
      exact ⟨rfl, bel_step (bx3_bel 25 w x0 y0 x1 y1 x2 y2) g1⟩
  · have h1 : (sgn (trn x0 y0 x1 y1 x2 y2) == 0) = false := by simpa using h1
    have hv : onB x0 y0 x1 y1 x2 y2 = false := by simp [onB, h1]
    rw [hv]; clear hv
    go_enter Try.func59, Try.ntmps59
    go_wp2_with fail
    refine (l1Turn_any _ _ _ _ _ _ _ a b c).mono ?_
    rintro e w1 ⟨rfl, hb1⟩
    have g1 : Bel (bx3 25 w x0 y0 x1 y1 x2 y2) w1 := hb1
    clear hb1
    go_wp2
    go_ret
    exact ⟨rfl, bel_step (bx3_bel 25 w x0 y0 x1 y1 x2 y2) g1⟩

theorem sgn_mul_bd (m n : Int) : -1 ≤ sgn m * sgn n ∧ sgn m * sgn n ≤ 1 := by
  have h1 := sgn_bd m
  have h2 := sgn_bd n
  have := mul_bd 1 (by decide) h1.1 h1.2 h2.1 h2.2
  omega
theorem wrap_sgn (m n : Int) : IntKind.i64.wrap (sgn m * sgn n) = sgn m * sgn n := by
  have h := sgn_mul_bd m n
  rw [IntKind.wrap_i64]
  omega
theorem sgn_mul_le {m n : Int} : sgn m * sgn n ≤ 0 ↔ m * n ≤ 0 := by
  constructor
  · intro h
    exact np_mul (by have := mul_np h; unfold sgn at this; split at this <;> split at this <;> (try split at this) <;> (try split at this) <;> omega)
  · intro h
    exact np_mul (by have := mul_np h; unfold sgn; split <;> split <;> (try split) <;> (try split) <;> omega)
theorem sgn_mul_lt {m n : Int} : sgn m * sgn n < 0 ↔ m * n < 0 := by
  have h1 : sgn m * sgn n = 0 ↔ m * n = 0 := by rw [Int.mul_eq_zero, Int.mul_eq_zero, sgn_eq_zero, sgn_eq_zero]
  have h2 := @sgn_mul_le m n
  omega

/-- Cross as the model reckons it, of points that can be. -/
def crS (x0 y0 x1 y1 x2 y2 x3 y3 : Int) : Bool := onB x0 y0 x1 y1 x2 y2 || (onB x0 y0 x1 y1 x3 y3 || (onB x2 y2 x3 y3 x0 y0 || (onB x2 y2 x3 y3 x1 y1 || (decide (sgn (trn x0 y0 x1 y1 x2 y2) * sgn (trn x0 y0 x1 y1 x3 y3) < 0) && decide (sgn (trn x2 y2 x3 y3 x0 y0) * sgn (trn x2 y2 x3 y3 x1 y1) < 0)))))
/-- Cross as the program reckons it, of points that can be. -/
def crI (x0 y0 x1 y1 x2 y2 x3 y3 : Int) : Bool := boxB (min x0 x1) (min y0 y1) (max x0 x1) (max y0 y1) (min x2 x3) (min y2 y3) (max x2 x3) (max y2 y3) && (decide (sgn (trn x0 y0 x1 y1 x2 y2) * sgn (trn x0 y0 x1 y1 x3 y3) ≤ 0) && decide (sgn (trn x2 y2 x3 y3 x0 y0) * sgn (trn x2 y2 x3 y3 x1 y1) ≤ 0))
theorem crS_eq (x0 y0 x1 y1 x2 y2 x3 y3 : Int) : crI x0 y0 x1 y1 x2 y2 x3 y3 = crS x0 y0 x1 y1 x2 y2 x3 y3 := by
  rw [Bool.eq_iff_iff]
  have := cross_iff x0 y0 x1 y1 x2 y2 x3 y3
  simp only [crS, crI, Bool.or_eq_true, Bool.and_eq_true, decide_eq_true_eq, onB_iff, sgn_mul_lt, sgn_mul_le, boxB]
  unfold Meet at this
  rw [this]
/-- Cross as both tell it. -/
def crossOf (x0 y0 x1 y1 x2 y2 x3 y3 : Int) : Bool := pok x0 y0 && (pok x1 y1 && (pok x2 y2 && (pok x3 y3 && crS x0 y0 x1 y1 x2 y2 x3 y3)))

theorem turn_ok (x0 y0 x1 y1 x2 y2 : Int) (w : World) (a : POk x0 y0) (b : POk x1 y1) (c : POk x2 y2) :
    Calls Try.prog 25 #[pt x0 y0, pt x1 y1, pt x2 y2] w fun e w' => e = .returned (.int .i64 (sgn (trn x0 y0 x1 y1 x2 y2))) ∧ Bel w w' := by
  have hd : turnOf x0 y0 x1 y1 x2 y2 = sgn (trn x0 y0 x1 y1 x2 y2) := by simp [turnOf, pOk_iff.2 a, pOk_iff.2 b, pOk_iff.2 c]
  rw [← hd]
  exact turn_any _ _ _ _ _ _ _

set_option maxHeartbeats 4000000 in
theorem l1Cross_any (x0 y0 x1 y1 x2 y2 x3 y3 : Int) (w : World) (a : POk x0 y0) (b : POk x1 y1) (c : POk x2 y2) (d : POk x3 y3) :
    Calls Try.prog 49 #[pt x0 y0, pt x1 y1, pt x2 y2, pt x3 y3] w fun e w' => e = .returned (.bool (crS x0 y0 x1 y1 x2 y2 x3 y3)) ∧ Bel w w' := by
  have hR := bx4_cells 25 w x0 y0 x1 y1 x2 y2 x3 y3
  obtain ⟨m0, m1⟩ := sgn_mul_bd (trn x0 y0 x1 y1 x2 y2) (trn x0 y0 x1 y1 x3 y3)
  obtain ⟨n0, n1⟩ := sgn_mul_bd (trn x2 y2 x3 y3 x0 y0) (trn x2 y2 x3 y3 x1 y1)
  have hw1 := wrap_sgn (trn x0 y0 x1 y1 x2 y2) (trn x0 y0 x1 y1 x3 y3)
  have hw2 := wrap_sgn (trn x2 y2 x3 y3 x0 y0) (trn x2 y2 x3 y3 x1 y1)
  by_cases o0 : onB x0 y0 x1 y1 x2 y2 = true
  · have hv : crS x0 y0 x1 y1 x2 y2 x3 y3 = true := by simp [crS, o0]
    rw [hv]; clear hv
    go_enter Try.func49, Try.ntmps49
    go_wp2_with fail
    refine (l1On_any _ _ _ _ _ _ _ a b c).mono ?_
    rintro e w1 ⟨rfl, hb1⟩
    have g1 : Bel (bx4 25 w x0 y0 x1 y1 x2 y2 x3 y3) w1 := hb1
    clear hb1
    go_wp2
    go_ret
    exact ⟨rfl, bel_step (bx4_bel 25 w x0 y0 x1 y1 x2 y2 x3 y3) g1⟩
  · have o0 : onB x0 y0 x1 y1 x2 y2 = false := by simpa using o0
    by_cases o1 : onB x0 y0 x1 y1 x3 y3 = true
    · have hv : crS x0 y0 x1 y1 x2 y2 x3 y3 = true := by simp [crS, o1]
      rw [hv]; clear hv
      go_enter Try.func49, Try.ntmps49
      go_wp2_with fail
      refine (l1On_any _ _ _ _ _ _ _ a b c).mono ?_
      rintro e w1 ⟨rfl, hb1⟩
      have g1 : Bel (bx4 25 w x0 y0 x1 y1 x2 y2 x3 y3) w1 := hb1
      clear hb1
      go_wp2_with fail
      refine (l1On_any _ _ _ _ _ _ _ a b d).mono ?_
      rintro e w2 ⟨rfl, hb2⟩
      have g2 : Bel (bx4 25 w x0 y0 x1 y1 x2 y2 x3 y3) w2 := bel_step g1 hb2
      clear hb2
      clear g1
      go_wp2
      go_ret
      exact ⟨rfl, bel_step (bx4_bel 25 w x0 y0 x1 y1 x2 y2 x3 y3) g2⟩
    · have o1 : onB x0 y0 x1 y1 x3 y3 = false := by simpa using o1
      by_cases o2 : onB x2 y2 x3 y3 x0 y0 = true
      · have hv : crS x0 y0 x1 y1 x2 y2 x3 y3 = true := by simp [crS, o2]
        rw [hv]; clear hv
        go_enter Try.func49, Try.ntmps49
        go_wp2_with fail
        refine (l1On_any _ _ _ _ _ _ _ a b c).mono ?_
        rintro e w1 ⟨rfl, hb1⟩
        have g1 : Bel (bx4 25 w x0 y0 x1 y1 x2 y2 x3 y3) w1 := hb1
        clear hb1
        go_wp2_with fail
        refine (l1On_any _ _ _ _ _ _ _ a b d).mono ?_
        rintro e w2 ⟨rfl, hb2⟩
        have g2 : Bel (bx4 25 w x0 y0 x1 y1 x2 y2 x3 y3) w2 := bel_step g1 hb2
        clear hb2
        clear g1
        go_wp2_with fail
        refine (l1On_any _ _ _ _ _ _ _ c d a).mono ?_
        rintro e w3 ⟨rfl, hb3⟩
        have g3 : Bel (bx4 25 w x0 y0 x1 y1 x2 y2 x3 y3) w3 := bel_step g2 hb3
        clear hb3
        clear g2
        go_wp2
        go_ret
        exact ⟨rfl, bel_step (bx4_bel 25 w x0 y0 x1 y1 x2 y2 x3 y3) g3⟩
      · have o2 : onB x2 y2 x3 y3 x0 y0 = false := by simpa using o2
        by_cases o3 : onB x2 y2 x3 y3 x1 y1 = true
        · have hv : crS x0 y0 x1 y1 x2 y2 x3 y3 = true := by simp [crS, o3]
          rw [hv]; clear hv
          go_enter Try.func49, Try.ntmps49
          go_wp2_with fail
          refine (l1On_any _ _ _ _ _ _ _ a b c).mono ?_
          rintro e w1 ⟨rfl, hb1⟩
          have g1 : Bel (bx4 25 w x0 y0 x1 y1 x2 y2 x3 y3) w1 := hb1
          clear hb1
          go_wp2_with fail
          refine (l1On_any _ _ _ _ _ _ _ a b d).mono ?_
          rintro e w2 ⟨rfl, hb2⟩
          have g2 : Bel (bx4 25 w x0 y0 x1 y1 x2 y2 x3 y3) w2 := bel_step g1 hb2
          clear hb2
          clear g1
          go_wp2_with fail
          refine (l1On_any _ _ _ _ _ _ _ c d a).mono ?_
          rintro e w3 ⟨rfl, hb3⟩
          have g3 : Bel (bx4 25 w x0 y0 x1 y1 x2 y2 x3 y3) w3 := bel_step g2 hb3
          clear hb3
          clear g2
          go_wp2_with fail
          refine (l1On_any _ _ _ _ _ _ _ c d b).mono ?_
          rintro e w4 ⟨rfl, hb4⟩
          have g4 : Bel (bx4 25 w x0 y0 x1 y1 x2 y2 x3 y3) w4 := bel_step g3 hb4
          clear hb4
          clear g3
          go_wp2
          go_ret
          exact ⟨rfl, bel_step (bx4_bel 25 w x0 y0 x1 y1 x2 y2 x3 y3) g4⟩
        · have o3 : onB x2 y2 x3 y3 x1 y1 = false := by simpa using o3
          by_cases p : sgn (trn x0 y0 x1 y1 x2 y2) * sgn (trn x0 y0 x1 y1 x3 y3) < 0
          · have p' : decide (sgn (trn x0 y0 x1 y1 x2 y2) * sgn (trn x0 y0 x1 y1 x3 y3) < 0) = true := by simpa using p
            have hv : crS x0 y0 x1 y1 x2 y2 x3 y3 = decide (sgn (trn x2 y2 x3 y3 x0 y0) * sgn (trn x2 y2 x3 y3 x1 y1) < 0) := by simp [crS, o0, o1, o2, o3, p]
            rw [hv]; clear hv p
            go_enter Try.func49, Try.ntmps49
            go_wp2_with fail
            refine (l1On_any _ _ _ _ _ _ _ a b c).mono ?_
            rintro e w1 ⟨rfl, hb1⟩
            have g1 : Bel (bx4 25 w x0 y0 x1 y1 x2 y2 x3 y3) w1 := hb1
            clear hb1
            go_wp2_with fail
            refine (l1On_any _ _ _ _ _ _ _ a b d).mono ?_
            rintro e w2 ⟨rfl, hb2⟩
            have g2 : Bel (bx4 25 w x0 y0 x1 y1 x2 y2 x3 y3) w2 := bel_step g1 hb2
            clear hb2
            clear g1
            go_wp2_with fail
            refine (l1On_any _ _ _ _ _ _ _ c d a).mono ?_
            rintro e w3 ⟨rfl, hb3⟩
            have g3 : Bel (bx4 25 w x0 y0 x1 y1 x2 y2 x3 y3) w3 := bel_step g2 hb3
            clear hb3
            clear g2
            go_wp2_with fail
            refine (l1On_any _ _ _ _ _ _ _ c d b).mono ?_
            rintro e w4 ⟨rfl, hb4⟩
            have g4 : Bel (bx4 25 w x0 y0 x1 y1 x2 y2 x3 y3) w4 := bel_step g3 hb4
            clear hb4
            clear g3
            go_wp2
            go_region_held3 (fun w' => Bel (bx4 25 w x0 y0 x1 y1 x2 y2 x3 y3) w') (repeat (first | exact g4 | refine Bel.drew ?_ | assumption | refine bel_then (by assumption) ?_))
              (first
                | (go_at_call 47; refine (l1Turn_any _ _ _ _ _ _ _ (by assumption) (by assumption) (by assumption)).mono ?_; rintro e w' ⟨rfl, hbk⟩))
            have hH : Bel (bx4 25 w x0 y0 x1 y1 x2 y2 x3 y3) w' := by assumption
            go_wp2
            go_ret
            exact ⟨rfl, bel_step (bx4_bel 25 w x0 y0 x1 y1 x2 y2 x3 y3) hH⟩
          · have p' : decide (sgn (trn x0 y0 x1 y1 x2 y2) * sgn (trn x0 y0 x1 y1 x3 y3) < 0) = false := by simpa using p
            have hv : crS x0 y0 x1 y1 x2 y2 x3 y3 = false := by simp [crS, o0, o1, o2, o3, p]
            rw [hv]; clear hv p
            go_enter Try.func49, Try.ntmps49
            go_wp2_with fail
            refine (l1On_any _ _ _ _ _ _ _ a b c).mono ?_
            rintro e w1 ⟨rfl, hb1⟩
            have g1 : Bel (bx4 25 w x0 y0 x1 y1 x2 y2 x3 y3) w1 := hb1
            clear hb1
            go_wp2_with fail
            refine (l1On_any _ _ _ _ _ _ _ a b d).mono ?_
            rintro e w2 ⟨rfl, hb2⟩
            have g2 : Bel (bx4 25 w x0 y0 x1 y1 x2 y2 x3 y3) w2 := bel_step g1 hb2
            clear hb2
            clear g1
            go_wp2_with fail
            refine (l1On_any _ _ _ _ _ _ _ c d a).mono ?_
            rintro e w3 ⟨rfl, hb3⟩
            have g3 : Bel (bx4 25 w x0 y0 x1 y1 x2 y2 x3 y3) w3 := bel_step g2 hb3
            clear hb3
            clear g2
            go_wp2_with fail
            refine (l1On_any _ _ _ _ _ _ _ c d b).mono ?_
            rintro e w4 ⟨rfl, hb4⟩
            have g4 : Bel (bx4 25 w x0 y0 x1 y1 x2 y2 x3 y3) w4 := bel_step g3 hb4
            clear hb4
            clear g3
            go_wp2
            refine wp_region_noPanic ?_
            refine wp_region_held_drew (S := fun w' => Bel (bx4 25 w x0 y0 x1 y1 x2 y2 x3 y3) w') (by kernel_rfl) (Bel.drew g4) (fun hHeld => ?_)
            refine wpAnyH_take (i := 0) (oi := { dst := some 31, op := Go.Op.load 25 (Go.Operand.tmp 4), type := 25, pos := "l01_geo.go:129", after := #[], guard := none }) (v := ?va0) rfl (by kernel_rfl) (by kernel_rfl) (by kernel_rfl) (fun _ _ _ h => h) (Or.inl ⟨by rfl, ?ha0⟩) hHeld ?ra0
            case ha0 => (intro w hSw; (try dsimp only at hSw); go_simp; try with_reducible rfl)
            try simp only [Act.put, List.setIfInBounds_toArray, List.set_cons_zero, List.set_cons_succ]
            refine wpAnyH_take (i := 1) (oi := { dst := some 32, op := Go.Op.load 25 (Go.Operand.tmp 5), type := 25, pos := "l01_geo.go:129", after := #[], guard := none }) (v := ?va1) rfl (by kernel_rfl) (by kernel_rfl) (by kernel_rfl) (fun _ _ _ h => h) (Or.inl ⟨by rfl, ?ha1⟩) hHeld ?ra1
            case ha1 => (intro w hSw; (try dsimp only at hSw); go_simp; try with_reducible rfl)
            try simp only [Act.put, List.setIfInBounds_toArray, List.set_cons_zero, List.set_cons_succ]
            refine wpAnyH_take (i := 2) (oi := { dst := some 33, op := Go.Op.load 25 (Go.Operand.tmp 6), type := 25, pos := "l01_geo.go:129", after := #[], guard := none }) (v := ?va2) rfl (by kernel_rfl) (by kernel_rfl) (by kernel_rfl) (fun _ _ _ h => h) (Or.inl ⟨by rfl, ?ha2⟩) hHeld ?ra2
            case ha2 => (intro w hSw; (try dsimp only at hSw); go_simp; try with_reducible rfl)
            try simp only [Act.put, List.setIfInBounds_toArray, List.set_cons_zero, List.set_cons_succ]
            refine wpAnyH_take (i := 4) (oi := { dst := some 35, op := Go.Op.load 25 (Go.Operand.tmp 4), type := 25, pos := "l01_geo.go:129", after := #[], guard := none }) (v := ?va4) rfl (by kernel_rfl) (by kernel_rfl) (by kernel_rfl) (fun _ _ _ h => h) (Or.inl ⟨by rfl, ?ha4⟩) hHeld ?ra4
            case ha4 => (intro w hSw; (try dsimp only at hSw); go_simp; try with_reducible rfl)
            try simp only [Act.put, List.setIfInBounds_toArray, List.set_cons_zero, List.set_cons_succ]
            refine wpAnyH_take (i := 5) (oi := { dst := some 36, op := Go.Op.load 25 (Go.Operand.tmp 5), type := 25, pos := "l01_geo.go:129", after := #[], guard := none }) (v := ?va5) rfl (by kernel_rfl) (by kernel_rfl) (by kernel_rfl) (fun _ _ _ h => h) (Or.inl ⟨by rfl, ?ha5⟩) hHeld ?ra5
            case ha5 => (intro w hSw; (try dsimp only at hSw); go_simp; try with_reducible rfl)
            try simp only [Act.put, List.setIfInBounds_toArray, List.set_cons_zero, List.set_cons_succ]
            refine wpAnyH_take (i := 6) (oi := { dst := some 37, op := Go.Op.load 25 (Go.Operand.tmp 7), type := 25, pos := "l01_geo.go:129", after := #[], guard := none }) (v := ?va6) rfl (by kernel_rfl) (by kernel_rfl) (by kernel_rfl) (fun _ _ _ h => h) (Or.inl ⟨by rfl, ?ha6⟩) hHeld ?ra6
            case ha6 => (intro w hSw; (try dsimp only at hSw); go_simp; try with_reducible rfl)
            try simp only [Act.put, List.setIfInBounds_toArray, List.set_cons_zero, List.set_cons_succ]
            refine wpAnyH_ready (rs := [3]) (by kernel_rfl) (by simp) ?_
            refine AllReadyH.cons (o := { dst := some 34, op := Go.Op.call { callee := Go.Callee.value (Go.Operand.func 47), args := #[Go.Operand.tmp 31, Go.Operand.tmp 32, Go.Operand.tmp 33], argTypes := #[25, 25, 25] }, type := 2, pos := "l01_geo.go:129", after := #[{ on := 0, ground := Go.Ground.data }, { on := 1, ground := Go.Ground.data }, { on := 2, ground := Go.Ground.data }], guard := none }) rfl (fun K hK => ?_) AllReadyH.nil
            go_simp
            refine (l1Turn_any _ _ _ _ _ _ _ (by assumption) (by assumption) (by assumption)).mono ?_
            rintro e w' ⟨rfl, hbk⟩
            go_wp2_with fail
            refine hK.out _ _ (bel_step hHeld hbk) (fun hHeld' => ?_)
            clear hK K hHeld
            have hHeld := hHeld'
            clear hHeld'
            try simp only [Act.put, List.setIfInBounds_toArray, List.set_cons_zero, List.set_cons_succ]
            refine wpAnyH_ready (rs := [7]) (by kernel_rfl) (by simp) ?_
            refine AllReadyH.cons (o := { dst := some 38, op := Go.Op.call { callee := Go.Callee.value (Go.Operand.func 47), args := #[Go.Operand.tmp 35, Go.Operand.tmp 36, Go.Operand.tmp 37], argTypes := #[25, 25, 25] }, type := 2, pos := "l01_geo.go:129", after := #[{ on := 4, ground := Go.Ground.data }, { on := 5, ground := Go.Ground.data }, { on := 6, ground := Go.Ground.data }, { on := 3, ground := Go.Ground.chain }], guard := none }) rfl (fun K hK => ?_) AllReadyH.nil
            go_simp
            refine (l1Turn_any _ _ _ _ _ _ _ (by assumption) (by assumption) (by assumption)).mono ?_
            rintro e w' ⟨rfl, hbk⟩
            go_wp2_with fail
            refine hK.out _ _ (bel_step hHeld hbk) (fun hHeld' => ?_)
            clear hK K hHeld
            have hHeld := hHeld'
            clear hHeld'
            try simp only [Act.put, List.setIfInBounds_toArray, List.set_cons_zero, List.set_cons_succ]
            refine wpAnyH_take (i := 8) (oi := { dst := some 39, op := Go.Op.binOp Go.BinOp.mul 2 (Go.Operand.tmp 34) (Go.Operand.tmp 38) 2, type := 2, pos := "l01_geo.go:129", after := #[{ on := 3, ground := Go.Ground.data }, { on := 7, ground := Go.Ground.data }], guard := none }) (v := ?va8) rfl (by kernel_rfl) (by kernel_rfl) (by kernel_rfl) (fun _ _ _ h => h) (Or.inl ⟨by rfl, ?ha8⟩) hHeld ?ra8
            case ha8 => (intro w hSw; (try dsimp only at hSw); go_simp; try with_reducible rfl)
            try simp only [Act.put, List.setIfInBounds_toArray, List.set_cons_zero, List.set_cons_succ]
            refine wpAnyH_take (i := 9) (oi := { dst := some 40, op := Go.Op.binOp Go.BinOp.lss 2 (Go.Operand.tmp 39) (Go.Operand.const (Go.Value.int Go.IntKind.i64 0)) 2, type := 4, pos := "l01_geo.go:129", after := #[{ on := 8, ground := Go.Ground.data }], guard := none }) (v := ?va9) rfl (by kernel_rfl) (by kernel_rfl) (by kernel_rfl) (fun _ _ _ h => h) (Or.inl ⟨by rfl, ?ha9⟩) hHeld ?ra9
            case ha9 => (intro w hSw; (try dsimp only at hSw); go_simp; try with_reducible rfl)
            try simp only [Act.put, List.setIfInBounds_toArray, List.set_cons_zero, List.set_cons_succ]
            refine wpAnyH_take (i := 10) (oi := { dst := some 41, op := Go.Op.move (Go.Operand.tmp 40), type := 4, pos := "l01_geo.go:129", after := #[{ on := 9, ground := Go.Ground.data }, { on := 7, ground := Go.Ground.chain }], guard := none }) (v := ?va10) rfl (by kernel_rfl) (by kernel_rfl) (by kernel_rfl) (fun _ _ _ h => h) (Or.inl ⟨by rfl, ?ha10⟩) hHeld ?ra10
            case ha10 => (intro w hSw; (try dsimp only at hSw); go_simp; try with_reducible rfl)
            try simp only [Act.put, List.setIfInBounds_toArray, List.set_cons_zero, List.set_cons_succ]
            refine wpAnyH_take (i := 11) (oi := { dst := some 42, op := Go.Op.load 25 (Go.Operand.tmp 6), type := 25, pos := "l01_geo.go:129", after := #[{ on := 10, ground := Go.Ground.guard }], guard := some (10, true) }) (v := undef) rfl (by kernel_rfl) (by kernel_rfl) (by kernel_rfl) (fun _ _ _ h => h) (Or.inr ⟨by rfl, rfl⟩) hHeld ?_
            try simp only [Act.put, List.setIfInBounds_toArray, List.set_cons_zero, List.set_cons_succ]
            refine wpAnyH_take (i := 12) (oi := { dst := some 43, op := Go.Op.load 25 (Go.Operand.tmp 7), type := 25, pos := "l01_geo.go:129", after := #[{ on := 10, ground := Go.Ground.guard }], guard := some (10, true) }) (v := undef) rfl (by kernel_rfl) (by kernel_rfl) (by kernel_rfl) (fun _ _ _ h => h) (Or.inr ⟨by rfl, rfl⟩) hHeld ?_
            try simp only [Act.put, List.setIfInBounds_toArray, List.set_cons_zero, List.set_cons_succ]
            refine wpAnyH_take (i := 13) (oi := { dst := some 44, op := Go.Op.load 25 (Go.Operand.tmp 4), type := 25, pos := "l01_geo.go:129", after := #[{ on := 10, ground := Go.Ground.guard }], guard := some (10, true) }) (v := undef) rfl (by kernel_rfl) (by kernel_rfl) (by kernel_rfl) (fun _ _ _ h => h) (Or.inr ⟨by rfl, rfl⟩) hHeld ?_
            try simp only [Act.put, List.setIfInBounds_toArray, List.set_cons_zero, List.set_cons_succ]
            refine wpAnyH_take (i := 14) (oi := { dst := some 45, op := Go.Op.call { callee := Go.Callee.value (Go.Operand.func 47), args := #[Go.Operand.tmp 42, Go.Operand.tmp 43, Go.Operand.tmp 44], argTypes := #[25, 25, 25] }, type := 2, pos := "l01_geo.go:129", after := #[{ on := 11, ground := Go.Ground.data }, { on := 12, ground := Go.Ground.data }, { on := 13, ground := Go.Ground.data }, { on := 10, ground := Go.Ground.chain }, { on := 10, ground := Go.Ground.guard }], guard := some (10, true) }) (v := undef) rfl (by kernel_rfl) (by kernel_rfl) (by kernel_rfl) (fun _ _ _ h => h) (Or.inr ⟨by rfl, rfl⟩) hHeld ?_
            try simp only [Act.put, List.setIfInBounds_toArray, List.set_cons_zero, List.set_cons_succ]
            refine wpAnyH_take (i := 15) (oi := { dst := some 46, op := Go.Op.load 25 (Go.Operand.tmp 6), type := 25, pos := "l01_geo.go:129", after := #[{ on := 10, ground := Go.Ground.guard }], guard := some (10, true) }) (v := undef) rfl (by kernel_rfl) (by kernel_rfl) (by kernel_rfl) (fun _ _ _ h => h) (Or.inr ⟨by rfl, rfl⟩) hHeld ?_
            try simp only [Act.put, List.setIfInBounds_toArray, List.set_cons_zero, List.set_cons_succ]
            refine wpAnyH_take (i := 16) (oi := { dst := some 47, op := Go.Op.load 25 (Go.Operand.tmp 7), type := 25, pos := "l01_geo.go:129", after := #[{ on := 10, ground := Go.Ground.guard }], guard := some (10, true) }) (v := undef) rfl (by kernel_rfl) (by kernel_rfl) (by kernel_rfl) (fun _ _ _ h => h) (Or.inr ⟨by rfl, rfl⟩) hHeld ?_
            try simp only [Act.put, List.setIfInBounds_toArray, List.set_cons_zero, List.set_cons_succ]
            refine wpAnyH_take (i := 17) (oi := { dst := some 48, op := Go.Op.load 25 (Go.Operand.tmp 5), type := 25, pos := "l01_geo.go:129", after := #[{ on := 10, ground := Go.Ground.guard }], guard := some (10, true) }) (v := undef) rfl (by kernel_rfl) (by kernel_rfl) (by kernel_rfl) (fun _ _ _ h => h) (Or.inr ⟨by rfl, rfl⟩) hHeld ?_
            try simp only [Act.put, List.setIfInBounds_toArray, List.set_cons_zero, List.set_cons_succ]
            refine wpAnyH_take (i := 18) (oi := { dst := some 49, op := Go.Op.call { callee := Go.Callee.value (Go.Operand.func 47), args := #[Go.Operand.tmp 46, Go.Operand.tmp 47, Go.Operand.tmp 48], argTypes := #[25, 25, 25] }, type := 2, pos := "l01_geo.go:129", after := #[{ on := 15, ground := Go.Ground.data }, { on := 16, ground := Go.Ground.data }, { on := 17, ground := Go.Ground.data }, { on := 14, ground := Go.Ground.chain }, { on := 10, ground := Go.Ground.guard }], guard := some (10, true) }) (v := undef) rfl (by kernel_rfl) (by kernel_rfl) (by kernel_rfl) (fun _ _ _ h => h) (Or.inr ⟨by rfl, rfl⟩) hHeld ?_
            try simp only [Act.put, List.setIfInBounds_toArray, List.set_cons_zero, List.set_cons_succ]
            refine wpAnyH_take (i := 19) (oi := { dst := some 50, op := Go.Op.binOp Go.BinOp.mul 2 (Go.Operand.tmp 45) (Go.Operand.tmp 49) 2, type := 2, pos := "l01_geo.go:129", after := #[{ on := 14, ground := Go.Ground.data }, { on := 18, ground := Go.Ground.data }, { on := 10, ground := Go.Ground.guard }], guard := some (10, true) }) (v := undef) rfl (by kernel_rfl) (by kernel_rfl) (by kernel_rfl) (fun _ _ _ h => h) (Or.inr ⟨by rfl, rfl⟩) hHeld ?_
            try simp only [Act.put, List.setIfInBounds_toArray, List.set_cons_zero, List.set_cons_succ]
            refine wpAnyH_take (i := 20) (oi := { dst := some 51, op := Go.Op.binOp Go.BinOp.lss 2 (Go.Operand.tmp 50) (Go.Operand.const (Go.Value.int Go.IntKind.i64 0)) 2, type := 4, pos := "l01_geo.go:129", after := #[{ on := 19, ground := Go.Ground.data }, { on := 10, ground := Go.Ground.guard }], guard := some (10, true) }) (v := undef) rfl (by kernel_rfl) (by kernel_rfl) (by kernel_rfl) (fun _ _ _ h => h) (Or.inr ⟨by rfl, rfl⟩) hHeld ?_
            try simp only [Act.put, List.setIfInBounds_toArray, List.set_cons_zero, List.set_cons_succ]
            refine wpAnyH_take (i := 21) (oi := { dst := some 52, op := Go.Op.pick (Go.Operand.tmp 41) (Go.Operand.tmp 51) (Go.Operand.const (Go.Value.bool false)), type := 4, pos := "l01_geo.go:129", after := #[{ on := 10, ground := Go.Ground.data }, { on := 20, ground := Go.Ground.data }], guard := none }) (v := ?va21) rfl (by kernel_rfl) (by kernel_rfl) (by kernel_rfl) (fun _ _ _ h => h) (Or.inl ⟨by rfl, ?ha21⟩) hHeld ?ra21
            case ha21 => (intro w hSw; (try dsimp only at hSw); go_simp; try with_reducible rfl)
            try simp only [Act.put, List.setIfInBounds_toArray, List.set_cons_zero, List.set_cons_succ]
            refine wpAnyH_take (i := 22) (oi := { dst := some 8, op := Go.Op.assign (Go.Operand.tmp 52), type := 4, pos := "l01_geo.go:129", after := #[{ on := 21, ground := Go.Ground.data }, { on := 18, ground := Go.Ground.chain }, { on := 0, ground := Go.Ground.phase }, { on := 1, ground := Go.Ground.phase }, { on := 2, ground := Go.Ground.phase }, { on := 3, ground := Go.Ground.phase }, { on := 4, ground := Go.Ground.phase }, { on := 5, ground := Go.Ground.phase }, { on := 6, ground := Go.Ground.phase }, { on := 7, ground := Go.Ground.phase }, { on := 8, ground := Go.Ground.phase }, { on := 9, ground := Go.Ground.phase }, { on := 10, ground := Go.Ground.phase }, { on := 11, ground := Go.Ground.phase }, { on := 12, ground := Go.Ground.phase }, { on := 13, ground := Go.Ground.phase }, { on := 14, ground := Go.Ground.phase }, { on := 15, ground := Go.Ground.phase }, { on := 16, ground := Go.Ground.phase }, { on := 17, ground := Go.Ground.phase }, { on := 18, ground := Go.Ground.phase }, { on := 19, ground := Go.Ground.phase }, { on := 20, ground := Go.Ground.phase }, { on := 21, ground := Go.Ground.phase }], guard := none }) (v := ?va22) rfl (by kernel_rfl) (by kernel_rfl) (by kernel_rfl) (fun _ _ _ h => h) (Or.inl ⟨by rfl, ?ha22⟩) hHeld ?ra22
            case ha22 => (intro w hSw; (try dsimp only at hSw); go_simp; try with_reducible rfl)
            try simp only [Act.put, List.setIfInBounds_toArray, List.set_cons_zero, List.set_cons_succ]
            refine wpAnyH_done (by kernel_rfl) ?_ _
            refine NoPanic.normal ?_
            go_wp2
            go_ret
            exact ⟨rfl, bel_step (bx4_bel 25 w x0 y0 x1 y1 x2 y2 x3 y3) hHeld⟩

set_option maxHeartbeats 1000000 in
theorem specCross_any (x0 y0 x1 y1 x2 y2 x3 y3 : Int) (w : World) :
    Calls Try.prog 26 #[pt x0 y0, pt x1 y1, pt x2 y2, pt x3 y3] w fun e w' => e = .returned (.bool (crossOf x0 y0 x1 y1 x2 y2 x3 y3)) ∧ Bel w w' := by
  by_cases h0 : pok x0 y0 = true
  · skip
    by_cases h1 : pok x1 y1 = true
    · skip
      by_cases h2 : pok x2 y2 = true
      · skip
        by_cases h3 : pok x3 y3 = true
        · skip
          have hd : crossOf x0 y0 x1 y1 x2 y2 x3 y3 = crS x0 y0 x1 y1 x2 y2 x3 y3 := by simp [crossOf, h0, h1, h2, h3]
          rw [hd]; clear hd
          have hR := bx4_cells 25 w x0 y0 x1 y1 x2 y2 x3 y3
          go_enter Try.func26, Try.ntmps26
          go_wp2_with fail
          refine (specPointOk_any _ _ _).mono ?_
          rintro e w1 ⟨rfl, hb1⟩
          have g1 : Bel (bx4 25 w x0 y0 x1 y1 x2 y2 x3 y3) w1 := hb1
          clear hb1
          go_wp2_with fail
          refine (specPointOk_any _ _ _).mono ?_
          rintro e w2 ⟨rfl, hb2⟩
          have g2 : Bel (bx4 25 w x0 y0 x1 y1 x2 y2 x3 y3) w2 := bel_step g1 hb2
          clear hb2
          clear g1
          go_wp2_with fail
          refine (specPointOk_any _ _ _).mono ?_
          rintro e w3 ⟨rfl, hb3⟩
          have g3 : Bel (bx4 25 w x0 y0 x1 y1 x2 y2 x3 y3) w3 := bel_step g2 hb3
          clear hb3
          clear g2
          go_wp2_with fail
          refine (specPointOk_any _ _ _).mono ?_
          rintro e w4 ⟨rfl, hb4⟩
          have g4 : Bel (bx4 25 w x0 y0 x1 y1 x2 y2 x3 y3) w4 := bel_step g3 hb4
          clear hb4
          clear g3
          go_wp2_with fail
          refine (l1Cross_any _ _ _ _ _ _ _ _ _ (pOk_iff.1 h0) (pOk_iff.1 h1) (pOk_iff.1 h2) (pOk_iff.1 h3)).mono ?_
          rintro e w5 ⟨rfl, hb5⟩
          go_wp2
          go_ret
          exact ⟨rfl, bel_step (bel_step (bx4_bel 25 w x0 y0 x1 y1 x2 y2 x3 y3) g4) hb5⟩
        · have h3 : pok x3 y3 = false := by simpa using h3
          have hd : crossOf x0 y0 x1 y1 x2 y2 x3 y3 = false := by simp [crossOf, h3]
          rw [hd]; clear hd
          have hR := bx4_cells 25 w x0 y0 x1 y1 x2 y2 x3 y3
          go_enter Try.func26, Try.ntmps26
          go_wp2_with fail
          refine (specPointOk_any _ _ _).mono ?_
          rintro e w1 ⟨rfl, hb1⟩
          have g1 : Bel (bx4 25 w x0 y0 x1 y1 x2 y2 x3 y3) w1 := hb1
          clear hb1
          go_wp2_with fail
          refine (specPointOk_any _ _ _).mono ?_
          rintro e w2 ⟨rfl, hb2⟩
          have g2 : Bel (bx4 25 w x0 y0 x1 y1 x2 y2 x3 y3) w2 := bel_step g1 hb2
          clear hb2
          clear g1
          go_wp2_with fail
          refine (specPointOk_any _ _ _).mono ?_
          rintro e w3 ⟨rfl, hb3⟩
          have g3 : Bel (bx4 25 w x0 y0 x1 y1 x2 y2 x3 y3) w3 := bel_step g2 hb3
          clear hb3
          clear g2
          go_wp2_with fail
          refine (specPointOk_any _ _ _).mono ?_
          rintro e w4 ⟨rfl, hb4⟩
          have g4 : Bel (bx4 25 w x0 y0 x1 y1 x2 y2 x3 y3) w4 := bel_step g3 hb4
          clear hb4
          clear g3
          go_wp2
          go_ret
          exact ⟨rfl, bel_step (bx4_bel 25 w x0 y0 x1 y1 x2 y2 x3 y3) g4⟩
      · have h2 : pok x2 y2 = false := by simpa using h2
        have hd : crossOf x0 y0 x1 y1 x2 y2 x3 y3 = false := by simp [crossOf, h2]
        rw [hd]; clear hd
        have hR := bx4_cells 25 w x0 y0 x1 y1 x2 y2 x3 y3
        go_enter Try.func26, Try.ntmps26
        go_wp2_with fail
        refine (specPointOk_any _ _ _).mono ?_
        rintro e w1 ⟨rfl, hb1⟩
        have g1 : Bel (bx4 25 w x0 y0 x1 y1 x2 y2 x3 y3) w1 := hb1
        clear hb1
        go_wp2_with fail
        refine (specPointOk_any _ _ _).mono ?_
        rintro e w2 ⟨rfl, hb2⟩
        have g2 : Bel (bx4 25 w x0 y0 x1 y1 x2 y2 x3 y3) w2 := bel_step g1 hb2
        clear hb2
        clear g1
        go_wp2_with fail
        refine (specPointOk_any _ _ _).mono ?_
        rintro e w3 ⟨rfl, hb3⟩
        have g3 : Bel (bx4 25 w x0 y0 x1 y1 x2 y2 x3 y3) w3 := bel_step g2 hb3
        clear hb3
        clear g2
        go_wp2
        go_ret
        exact ⟨rfl, bel_step (bx4_bel 25 w x0 y0 x1 y1 x2 y2 x3 y3) g3⟩
    · have h1 : pok x1 y1 = false := by simpa using h1
      have hd : crossOf x0 y0 x1 y1 x2 y2 x3 y3 = false := by simp [crossOf, h1]
      rw [hd]; clear hd
      have hR := bx4_cells 25 w x0 y0 x1 y1 x2 y2 x3 y3
      go_enter Try.func26, Try.ntmps26
      go_wp2_with fail
      refine (specPointOk_any _ _ _).mono ?_
      rintro e w1 ⟨rfl, hb1⟩
      have g1 : Bel (bx4 25 w x0 y0 x1 y1 x2 y2 x3 y3) w1 := hb1
      clear hb1
      go_wp2_with fail
      refine (specPointOk_any _ _ _).mono ?_
      rintro e w2 ⟨rfl, hb2⟩
      have g2 : Bel (bx4 25 w x0 y0 x1 y1 x2 y2 x3 y3) w2 := bel_step g1 hb2
      clear hb2
      clear g1
      go_wp2
      go_ret
      exact ⟨rfl, bel_step (bx4_bel 25 w x0 y0 x1 y1 x2 y2 x3 y3) g2⟩
  · have h0 : pok x0 y0 = false := by simpa using h0
    have hd : crossOf x0 y0 x1 y1 x2 y2 x3 y3 = false := by simp [crossOf, h0]
    rw [hd]; clear hd
    have hR := bx4_cells 25 w x0 y0 x1 y1 x2 y2 x3 y3
    go_enter Try.func26, Try.ntmps26
    go_wp2_with fail
    refine (specPointOk_any _ _ _).mono ?_
    rintro e w1 ⟨rfl, hb1⟩
    have g1 : Bel (bx4 25 w x0 y0 x1 y1 x2 y2 x3 y3) w1 := hb1
    clear hb1
    go_wp2
    go_ret
    exact ⟨rfl, bel_step (bx4_bel 25 w x0 y0 x1 y1 x2 y2 x3 y3) g1⟩

end Go.Proofs.Ytoeaplcijdlhnaa
