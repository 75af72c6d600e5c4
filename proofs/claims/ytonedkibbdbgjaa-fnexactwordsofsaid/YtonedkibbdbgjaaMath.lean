/-
  The plain mathematics of chapter 1: whole roots, their uniqueness, one step from above, one step of the search by halves. No Go in sight; no condition.
-/
namespace Go.Proofs.Ytonedkibbdbgjaa
/-- r is the whole root of n. -/
def IsRoot (n r : Int) : Prop := 0 ≤ r ∧ r * r ≤ n ∧ n < (r + 1) * (r + 1)

theorem sq_lt {a b : Int} (ha : 0 ≤ a) (h : a * a < b * b) (hb : 0 ≤ b) : a < b := by
  rcases Int.lt_or_le a b with h1 | h1
  · exact h1
  · have := Int.mul_le_mul h1 h1 hb ha; omega

theorem isRoot_unique {n a b : Int} (ha : IsRoot n a) (hb : IsRoot n b) : a = b := by
  obtain ⟨a0, a1, a2⟩ := ha
  obtain ⟨b0, b1, b2⟩ := hb
  have h1 : a < b + 1 := sq_lt a0 (by omega) (by omega)
  have h2 : b < a + 1 := sq_lt b0 (by omega) (by omega)
  omega

/-- One step of Newton's from above stays above. -/
theorem newton_above {n r q : Int} (hr : 0 < r) (hq0 : 0 ≤ q) (hq : n < r * (q + 1)) (x : Int) (hx : r + q + 1 ≤ 2 * (x + 1)) : n < (x + 1) * (x + 1) := by
  -- (r + (q+1))^2 ≥ 4 r (q+1)
  have h1 : 0 ≤ (r - (q + 1)) * (r - (q + 1)) := by
    rcases Int.le_total 0 (r - (q + 1)) with h | h
    · exact Int.mul_nonneg h h
    · exact Int.mul_nonneg_of_nonpos_of_nonpos h h
  have h2 : (r + (q + 1)) * (r + (q + 1)) ≤ (2 * (x + 1)) * (2 * (x + 1)) := by
    have h : r + (q + 1) ≤ 2 * (x + 1) := by omega
    exact Int.mul_le_mul h h (by omega) (by omega)
  have e1 : (r - (q + 1)) * (r - (q + 1)) = (r + (q + 1)) * (r + (q + 1)) - 4 * (r * (q + 1)) := by
    simp only [Int.mul_add, Int.add_mul, Int.sub_mul, Int.mul_sub, Int.mul_one, Int.one_mul, Int.mul_comm q r]; omega
  have e2 : (2 * (x + 1)) * (2 * (x + 1)) = 4 * ((x + 1) * (x + 1)) := by
    simp only [Int.mul_add, Int.add_mul, Int.mul_one, Int.one_mul, Int.mul_assoc, Int.mul_left_comm x 2 ]; omega
  omega

theorem div_facts (n r : Int) (hn : 0 ≤ n) (hr : 0 < r) : 0 ≤ n / r ∧ r * (n / r) ≤ n ∧ n < r * (n / r + 1) := by
  refine ⟨Int.ediv_nonneg hn (by omega), ?_, ?_⟩
  · exact Int.mul_ediv_self_le (by omega)
  · have := Int.lt_mul_ediv_self_add (x := n) hr; rw [Int.mul_add]; omega

/-- What one round knows of 'n / r'. -/
theorem newton_q {n r : Int} (hr : 0 < r) (hn : 0 < n) (hab : n < (r + 1) * (r + 1)) : 0 ≤ n / r ∧ n / r ≤ r + 2 ∧ 2 ≤ r + n / r := by
  obtain ⟨q0, q1, q2⟩ := div_facts n r (by omega) hr
  refine ⟨q0, ?_, ?_⟩
  · rcases Int.lt_or_le (n / r) (r + 3) with h | h
    · omega
    · have h1 : r * (r + 3) ≤ r * (n / r) := Int.mul_le_mul_of_nonneg_left h (by omega)
      have e1 : r * (r + 3) = r * r + 3 * r := by rw [Int.mul_add]; omega
      have e2 : (r + 1) * (r + 1) = r * r + 2 * r + 1 := by simp only [Int.mul_add, Int.add_mul, Int.mul_one, Int.one_mul]; omega
      omega
  · by_cases h : r = 1
    · subst h; simp; omega
    · omega

theorem newton_stop {n r : Int} (hr : 0 < r) (hn : 0 < n) (hab : n < (r + 1) * (r + 1)) (h : r ≤ (r + n / r) / 2) : IsRoot n r := by
  obtain ⟨q0, q1, q2⟩ := div_facts n r (by omega) hr
  refine ⟨by omega, ?_, hab⟩
  have h1 : r ≤ n / r := by omega
  have h2 : r * r ≤ r * (n / r) := Int.mul_le_mul_of_nonneg_left h1 (by omega)
  omega

theorem newton_go {n r : Int} (hr : 0 < r) (hn : 0 < n) : n < ((r + n / r) / 2 + 1) * ((r + n / r) / 2 + 1) := by
  obtain ⟨q0, q1, q2⟩ := div_facts n r (by omega) hr
  exact newton_above hr q0 q2 _ (by omega)

/-- The binary search's step. -/
theorem half_low {low high : Int} (h0 : 0 ≤ low) (h : low < high) (hh : high ≤ 3037000499) : low < (low + high + 1) / 2 ∧ (low + high + 1) / 2 ≤ high ∧ 0 ≤ ((low + high + 1) / 2) * ((low + high + 1) / 2) ∧ ((low + high + 1) / 2) * ((low + high + 1) / 2) ≤ 9223372030926249001 := by
  have h1 : 0 ≤ (low + high + 1) / 2 := by omega
  have h2 : (low + high + 1) / 2 ≤ 3037000499 := by omega
  refine ⟨by omega, by omega, Int.mul_nonneg h1 h1, ?_⟩
  have := Int.mul_le_mul h2 h2 h1 (by decide)
  omega
end Go.Proofs.Ytonedkibbdbgjaa
