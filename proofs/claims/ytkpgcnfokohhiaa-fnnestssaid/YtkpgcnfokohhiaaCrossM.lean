/-
  The plain mathematics of Cross: two closed stretches have an end of one on the other, or cross properly, just where their boxes meet and neither has both ends on one side of the other. No Go in sight; no condition.
-/
import Derived.Test.YtkpgcnfokohhiaaTurnC
namespace Go.Proofs.Ytkpgcnfokohhiaa

theorem mul_np {m n : Int} (h : m * n ≤ 0) : (m ≤ 0 ∧ 0 ≤ n) ∨ (0 ≤ m ∧ n ≤ 0) := by
  rcases Int.lt_trichotomy m 0 with a | a | a <;> rcases Int.lt_trichotomy n 0 with b | b | b
  · have := Int.mul_pos_of_neg_of_neg a b; omega
  · left; omega
  · left; omega
  · right; omega
  · left; omega
  · left; omega
  · right; omega
  · right; omega
  · have := Int.mul_pos a b; omega
theorem np_mul {m n : Int} (h : (m ≤ 0 ∧ 0 ≤ n) ∨ (0 ≤ m ∧ n ≤ 0)) : m * n ≤ 0 := by
  rcases h with ⟨a, b⟩ | ⟨a, b⟩
  · exact Int.mul_nonpos_of_nonpos_of_nonneg a b
  · exact Int.mul_nonpos_of_nonneg_of_nonpos a b
theorem mul_neg' {m n : Int} (h : m * n < 0) : (m < 0 ∧ 0 < n) ∨ (0 < m ∧ n < 0) := by
  rcases mul_np (Int.le_of_lt h) with ⟨a, b⟩ | ⟨a, b⟩
  · by_cases e : m = 0
    · subst e; simp at h
    · by_cases e' : n = 0
      · subst e'; simp at h
      · left; omega
  · by_cases e : m = 0
    · subst e; simp at h
    · by_cases e' : n = 0
      · subst e'; simp at h
      · right; omega

/-- x lies between p and q. -/
def Btw (x p q : Int) : Prop := (p ≤ x ∧ x ≤ q) ∨ (q ≤ x ∧ x ≤ p)
theorem btw_iff {x p q : Int} : Btw x p q ↔ (p - x) * (q - x) ≤ 0 := by
  unfold Btw
  constructor
  · intro h; exact np_mul (by omega)
  · intro h; have := mul_np h; omega

theorem ratio {m n u v : Int} (h0 : ¬ (m = 0 ∧ n = 0)) (h : m * n ≤ 0) (e : m * u = n * v) : u * v ≤ 0 := by
  by_cases hm : m = 0
  · subst hm
    have hn : n ≠ 0 := by intro h; exact h0 ⟨rfl, h⟩
    have hv : v = 0 := by
      have : n * v = 0 := by omega
      rcases Int.mul_eq_zero.1 this with h | h
      · exact absurd h hn
      · exact h
    subst hv; simp
  · have h1 : (m * m) * (u * v) = (m * n) * (v * v) := by grind
    have h2 : (m * n) * (v * v) ≤ 0 := Int.mul_nonpos_of_nonpos_of_nonneg h (sq_nonneg v)
    have h3 : 0 < m * m := by
      rcases Int.lt_or_gt_of_ne hm with a | a
      · exact Int.mul_pos_of_neg_of_neg a a
      · exact Int.mul_pos a a
    rcases Int.lt_or_le 0 (u * v) with g | g
    · have := Int.mul_pos h3 g; omega
    · exact g

theorem quad (px py qx qy vx vy : Int) (h : px * qy = py * qx) (hx : px * qx ≤ 0) (hy : py * qy ≤ 0) : (vx * py - vy * px) * (vx * qy - vy * qx) ≤ 0 := by
  by_cases hB : py * qy = 0
  · have hM : (px * qy) * (px * qy) = 0 := by
      have : (px * qy) * (px * qy) = (px * qx) * (py * qy) := by grind
      rw [this, hB]; simp
    have hM' : px * qy = 0 := by rcases Int.mul_eq_zero.1 hM with h | h <;> exact h
    have e : (vx * py - vy * px) * (vx * qy - vy * qx) = (vy * vy) * (px * qx) := by grind
    rw [e]
    exact Int.mul_nonpos_of_nonneg_of_nonpos (sq_nonneg vy) hx
  · have hB' : 0 < -(py * qy) := by omega
    have e : -(py * qy) * (-((vx * py - vy * px) * (vx * qy - vy * qx))) = (vx * (-(py * qy)) + vy * (px * qy)) * (vx * (-(py * qy)) + vy * (px * qy)) := by grind
    have := sq_nonneg (vx * (-(py * qy)) + vy * (px * qy))
    rcases Int.lt_or_le 0 ((vx * py - vy * px) * (vx * qy - vy * qx)) with g | g
    · have := Int.mul_pos hB' g
      have e2 : -(py * qy) * (-((vx * py - vy * px) * (vx * qy - vy * qx))) = -(-(py * qy) * ((vx * py - vy * px) * (vx * qy - vy * qx))) := by grind
      omega
    · exact g

/-- p lies on the stretch from a to b. -/
def OnS (ax ay bx bY px py : Int) : Prop := trn ax ay bx bY px py = 0 ∧ Btw px ax bx ∧ Btw py ay bY

theorem on_opposite {ax ay bx bY cx cy dx dy : Int} (h : OnS ax ay bx bY cx cy) : trn cx cy dx dy ax ay * trn cx cy dx dy bx bY ≤ 0 := by
  obtain ⟨h1, h2, h3⟩ := h
  rw [btw_iff] at h2 h3
  have hc : (ax - cx) * (bY - cy) = (ay - cy) * (bx - cx) := by unfold trn at h1; grind
  have := quad (ax - cx) (ay - cy) (bx - cx) (bY - cy) (dx - cx) (dy - cy) hc h2 h3
  have e1 : trn cx cy dx dy ax ay = (dx - cx) * (ay - cy) - (dy - cy) * (ax - cx) := rfl
  have e2 : trn cx cy dx dy bx bY = (dx - cx) * (bY - cy) - (dy - cy) * (bx - cx) := rfl
  rw [e1, e2]; exact this

/-- The boxes of two stretches meet. -/
def Meet (ax ay bx bY cx cy dx dy : Int) : Prop :=
  min ax bx ≤ max cx dx ∧ min cx dx ≤ max ax bx ∧ min ay bY ≤ max cy dy ∧ min cy dy ≤ max ay bY

theorem weights {α β γ δ A B C D : Int} (a0 : 0 ≤ α) (b0 : 0 ≤ β) (c0 : 0 ≤ γ) (d0 : 0 ≤ δ) (hN : 0 < α + β) (hs : α + β = γ + δ) (he : α * A + β * B = γ * C + δ * D) : min A B ≤ max C D := by
  rcases Int.lt_or_le (max C D) (min A B) with g | g
  · generalize hm : max C D = m at g
    have h1 : γ * C ≤ γ * m := Int.mul_le_mul_of_nonneg_left (by omega) c0
    have h2 : δ * D ≤ δ * m := Int.mul_le_mul_of_nonneg_left (by omega) d0
    have h3 : α * (m + 1) ≤ α * A := Int.mul_le_mul_of_nonneg_left (by omega) a0
    have h4 : β * (m + 1) ≤ β * B := Int.mul_le_mul_of_nonneg_left (by omega) b0
    have e1 : γ * m + δ * m = α * m + β * m := by grind
    have e2 : α * (m + 1) = α * m + α := by grind
    have e3 : β * (m + 1) = β * m + β := by grind
    omega
  · exact g

theorem id_x (ax ay bx bY cx cy dx dy : Int) : trn cx cy dx dy bx bY * ax - trn cx cy dx dy ax ay * bx + trn ax ay bx bY dx dy * cx - trn ax ay bx bY cx cy * dx = 0 := by
  unfold trn; grind
theorem id_y (ax ay bx bY cx cy dx dy : Int) : trn cx cy dx dy bx bY * ay - trn cx cy dx dy ax ay * bY + trn ax ay bx bY dx dy * cy - trn ax ay bx bY cx cy * dy = 0 := by
  unfold trn; grind
theorem id_1 (ax ay bx bY cx cy dx dy : Int) : trn cx cy dx dy bx bY - trn cx cy dx dy ax ay + trn ax ay bx bY dx dy - trn ax ay bx bY cx cy = 0 := by
  unfold trn; grind

theorem meet_of_cross {ax ay bx bY cx cy dx dy : Int} (h1 : trn ax ay bx bY cx cy * trn ax ay bx bY dx dy < 0) (h2 : trn cx cy dx dy ax ay * trn cx cy dx dy bx bY < 0) : Meet ax ay bx bY cx cy dx dy := by
  have ix := id_x ax ay bx bY cx cy dx dy
  have iy := id_y ax ay bx bY cx cy dx dy
  have i1 := id_1 ax ay bx bY cx cy dx dy
  generalize trn ax ay bx bY cx cy = s1 at *
  generalize trn ax ay bx bY dx dy = s2 at *
  generalize trn cx cy dx dy ax ay = s3 at *
  generalize trn cx cy dx dy bx bY = s4 at *
  rcases mul_neg' h2 with ⟨p, q⟩ | ⟨p, q⟩
  · -- s3 < 0 < s4
    rcases mul_neg' h1 with ⟨p', q'⟩ | ⟨p', q'⟩
    · omega
    · exact ⟨weights (α := s4) (β := -s3) (γ := -s2) (δ := s1) (by omega) (by omega) (by omega) (by omega) (by omega) (by omega) (by grind),
        weights (α := -s2) (β := s1) (γ := s4) (δ := -s3) (by omega) (by omega) (by omega) (by omega) (by omega) (by omega) (by grind),
        weights (α := s4) (β := -s3) (γ := -s2) (δ := s1) (by omega) (by omega) (by omega) (by omega) (by omega) (by omega) (by grind),
        weights (α := -s2) (β := s1) (γ := s4) (δ := -s3) (by omega) (by omega) (by omega) (by omega) (by omega) (by omega) (by grind)⟩
  · rcases mul_neg' h1 with ⟨p', q'⟩ | ⟨p', q'⟩
    · exact ⟨weights (α := -s4) (β := s3) (γ := s2) (δ := -s1) (by omega) (by omega) (by omega) (by omega) (by omega) (by omega) (by grind),
        weights (α := s2) (β := -s1) (γ := -s4) (δ := s3) (by omega) (by omega) (by omega) (by omega) (by omega) (by omega) (by grind),
        weights (α := -s4) (β := s3) (γ := s2) (δ := -s1) (by omega) (by omega) (by omega) (by omega) (by omega) (by omega) (by grind),
        weights (α := s2) (β := -s1) (γ := -s4) (δ := s3) (by omega) (by omega) (by omega) (by omega) (by omega) (by omega) (by grind)⟩
    · omega

/-- On one line with a direction that is not upright: what lies between by x lies between by y. -/
theorem btw_along {p q ex ey fx fy gx gy : Int} (hp : p ≠ 0) (h1 : p * (gy - ey) = q * (gx - ex)) (h2 : p * (fy - gy) = q * (fx - gx)) (hb : Btw gx ex fx) : Btw gy ey fy := by
  rw [btw_iff] at hb ⊢
  have h3 : (p * p) * ((ey - gy) * (fy - gy)) = (q * q) * ((ex - gx) * (fx - gx)) := by grind
  have h4 : (q * q) * ((ex - gx) * (fx - gx)) ≤ 0 := Int.mul_nonpos_of_nonneg_of_nonpos (sq_nonneg q) hb
  have h5 : 0 < p * p := by
    rcases Int.lt_or_gt_of_ne hp with a | a
    · exact Int.mul_pos_of_neg_of_neg a a
    · exact Int.mul_pos a a
  rcases Int.lt_or_le 0 ((ey - gy) * (fy - gy)) with g | g
  · have := Int.mul_pos h5 g; omega
  · exact g

/-- Two intervals that meet: an end of one lies in the other. -/
theorem ends {a b c d : Int} (h1 : min a b ≤ max c d) (h2 : min c d ≤ max a b) : Btw c a b ∨ Btw d a b ∨ Btw a c d ∨ Btw b c d := by
  unfold Btw; omega

/-- All four on one line with direction (p, q), not both 0. -/
theorem on_line {p q ax ay bx bY cx cy dx dy : Int} (hpq : ¬ (p = 0 ∧ q = 0)) (hab : p * (bY - ay) = q * (bx - ax)) (hac : p * (cy - ay) = q * (cx - ax)) (had : p * (dy - ay) = q * (dx - ax))
    (hm : Meet ax ay bx bY cx cy dx dy) : (Btw cx ax bx ∧ Btw cy ay bY) ∨ (Btw dx ax bx ∧ Btw dy ay bY) ∨ (Btw ax cx dx ∧ Btw ay cy dy) ∨ (Btw bx cx dx ∧ Btw bY cy dy) := by
  obtain ⟨m1, m2, m3, m4⟩ := hm
  by_cases hp : p = 0
  · subst hp
    have hq : q ≠ 0 := fun h => hpq ⟨rfl, h⟩
    have e1 : bx - ax = 0 := by
      have : q * (bx - ax) = 0 := by omega
      rcases Int.mul_eq_zero.1 this with h | h
      · exact absurd h hq
      · exact h
    have e2 : cx - ax = 0 := by
      have : q * (cx - ax) = 0 := by omega
      rcases Int.mul_eq_zero.1 this with h | h
      · exact absurd h hq
      · exact h
    have e3 : dx - ax = 0 := by
      have : q * (dx - ax) = 0 := by omega
      rcases Int.mul_eq_zero.1 this with h | h
      · exact absurd h hq
      · exact h
    have t := ends m3 m4
    unfold Btw at *
    omega
  · rcases ends m1 m2 with h | h | h | h
    · exact .inl ⟨h, btw_along hp hac (by grind) h⟩
    · exact .inr (.inl ⟨h, btw_along hp had (by grind) h⟩)
    · exact .inr (.inr (.inl ⟨h, btw_along hp (q := q) (by grind) had h⟩))
    · exact .inr (.inr (.inr ⟨h, btw_along hp (q := q) (by grind) (by grind) h⟩))

theorem cross_iff (ax ay bx bY cx cy dx dy : Int) :
    (OnS ax ay bx bY cx cy ∨ OnS ax ay bx bY dx dy ∨ OnS cx cy dx dy ax ay ∨ OnS cx cy dx dy bx bY ∨
      (trn ax ay bx bY cx cy * trn ax ay bx bY dx dy < 0 ∧ trn cx cy dx dy ax ay * trn cx cy dx dy bx bY < 0)) ↔
    (Meet ax ay bx bY cx cy dx dy ∧ trn ax ay bx bY cx cy * trn ax ay bx bY dx dy ≤ 0 ∧ trn cx cy dx dy ax ay * trn cx cy dx dy bx bY ≤ 0) := by
  have n1 : trn dx dy cx cy ax ay = -trn cx cy dx dy ax ay := by unfold trn; grind
  have n2 : trn dx dy cx cy bx bY = -trn cx cy dx dy bx bY := by unfold trn; grind
  have n3 : trn bx bY ax ay cx cy = -trn ax ay bx bY cx cy := by unfold trn; grind
  have n4 : trn bx bY ax ay dx dy = -trn ax ay bx bY dx dy := by unfold trn; grind
  constructor
  · rintro (h | h | h | h | ⟨h1, h2⟩)
    · refine ⟨?_, by rw [h.1]; simp, on_opposite h⟩
      obtain ⟨_, a, b⟩ := h; unfold Btw at a b; unfold Meet; omega
    · refine ⟨?_, by rw [h.1]; simp, ?_⟩
      · obtain ⟨_, a, b⟩ := h; unfold Btw at a b; unfold Meet; omega
      · have := on_opposite (dx := cx) (dy := cy) h
        rw [n1, n2, Int.neg_mul_neg] at this; exact this
    · refine ⟨?_, on_opposite h, by rw [h.1]; simp⟩
      obtain ⟨_, a, b⟩ := h; unfold Btw at a b; unfold Meet; omega
    · refine ⟨?_, ?_, by rw [h.1]; simp⟩
      · obtain ⟨_, a, b⟩ := h; unfold Btw at a b; unfold Meet; omega
      · have := on_opposite (dx := ax) (dy := ay) h
        rw [n3, n4, Int.neg_mul_neg] at this; exact this
    · exact ⟨meet_of_cross h1 h2, Int.le_of_lt h1, Int.le_of_lt h2⟩
  · rintro ⟨hm, h1, h2⟩
    have ix := id_x ax ay bx bY cx cy dx dy
    have iy := id_y ax ay bx bY cx cy dx dy
    have i1 := id_1 ax ay bx bY cx cy dx dy
    by_cases z : trn ax ay bx bY cx cy = 0 ∧ trn ax ay bx bY dx dy = 0 ∧ trn cx cy dx dy ax ay = 0 ∧ trn cx cy dx dy bx bY = 0
    · obtain ⟨z1, z2, z3, z4⟩ := z
      have fin : (Btw cx ax bx ∧ Btw cy ay bY) ∨ (Btw dx ax bx ∧ Btw dy ay bY) ∨ (Btw ax cx dx ∧ Btw ay cy dy) ∨ (Btw bx cx dx ∧ Btw bY cy dy) := by
        by_cases hab : bx - ax = 0 ∧ bY - ay = 0
        · by_cases hcd : dx - cx = 0 ∧ dy - cy = 0
          · left; unfold Meet at hm; unfold Btw; omega
          · refine on_line (p := dx - cx) (q := dy - cy) hcd ?_ ?_ ?_ hm
            · rw [hab.1, hab.2]; simp
            · unfold trn at z3; grind
            · unfold trn at z3; grind
        · refine on_line (p := bx - ax) (q := bY - ay) hab ?_ ?_ ?_ hm
          · grind
          · unfold trn at z1; grind
          · unfold trn at z2; grind
      rcases fin with h | h | h | h
      · exact .inl ⟨z1, h⟩
      · exact .inr (.inl ⟨z2, h⟩)
      · exact .inr (.inr (.inl ⟨z3, h⟩))
      · exact .inr (.inr (.inr (.inl ⟨z4, h⟩)))
    · by_cases s1 : trn ax ay bx bY cx cy = 0
      · refine .inl ⟨s1, ?_, ?_⟩ <;> rw [btw_iff]
        · exact ratio (m := trn cx cy dx dy bx bY) (n := trn cx cy dx dy ax ay) (fun ⟨e1, e2⟩ => z ⟨s1, by omega, e2, e1⟩) (by rw [Int.mul_comm]; exact h2) (by grind)
        · exact ratio (m := trn cx cy dx dy bx bY) (n := trn cx cy dx dy ax ay) (fun ⟨e1, e2⟩ => z ⟨s1, by omega, e2, e1⟩) (by rw [Int.mul_comm]; exact h2) (by grind)
      · by_cases s2 : trn ax ay bx bY dx dy = 0
        · refine .inr (.inl ⟨s2, ?_, ?_⟩) <;> rw [btw_iff]
          · exact ratio (m := trn cx cy dx dy bx bY) (n := trn cx cy dx dy ax ay) (fun ⟨e1, e2⟩ => z ⟨by omega, s2, e2, e1⟩) (by rw [Int.mul_comm]; exact h2) (by grind)
          · exact ratio (m := trn cx cy dx dy bx bY) (n := trn cx cy dx dy ax ay) (fun ⟨e1, e2⟩ => z ⟨by omega, s2, e2, e1⟩) (by rw [Int.mul_comm]; exact h2) (by grind)
        · by_cases s3 : trn cx cy dx dy ax ay = 0
          · refine .inr (.inr (.inl ⟨s3, ?_, ?_⟩)) <;> rw [btw_iff]
            · exact ratio (m := trn ax ay bx bY dx dy) (n := trn ax ay bx bY cx cy) (fun ⟨e1, e2⟩ => s2 e1) (by rw [Int.mul_comm]; exact h1) (by grind)
            · exact ratio (m := trn ax ay bx bY dx dy) (n := trn ax ay bx bY cx cy) (fun ⟨e1, e2⟩ => s2 e1) (by rw [Int.mul_comm]; exact h1) (by grind)
          · by_cases s4 : trn cx cy dx dy bx bY = 0
            · refine .inr (.inr (.inr (.inl ⟨s4, ?_, ?_⟩))) <;> rw [btw_iff]
              · exact ratio (m := trn ax ay bx bY dx dy) (n := trn ax ay bx bY cx cy) (fun ⟨e1, e2⟩ => s2 e1) (by rw [Int.mul_comm]; exact h1) (by grind)
              · exact ratio (m := trn ax ay bx bY dx dy) (n := trn ax ay bx bY cx cy) (fun ⟨e1, e2⟩ => s2 e1) (by rw [Int.mul_comm]; exact h1) (by grind)
            · refine .inr (.inr (.inr (.inr ⟨?_, ?_⟩)))
              · rcases Int.lt_or_eq_of_le h1 with h | h
                · exact h
                · rcases Int.mul_eq_zero.1 h with h | h
                  · exact absurd h s1
                  · exact absurd h s2
              · rcases Int.lt_or_eq_of_le h2 with h | h
                · exact h
                · rcases Int.mul_eq_zero.1 h with h | h
                  · exact absurd h s3
                  · exact absurd h s4

end Go.Proofs.Ytkpgcnfokohhiaa
