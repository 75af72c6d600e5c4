/-
  The nearest place of a row and its corners: what the law FnNearest asks.
-/
import Derived.Test.YtkknbapcbcialaaNrsM
import Derived.Test.YtkknbapcbcialaaNearJ
import Derived.Test.YtkknbapcbcialaaBoundsD
namespace Go.Proofs.Ytkknbapcbcialaa
open Go.RowKit

theorem rootOf_out {n : Int} (h : 0 ≤ n) : 0 ≤ rootOf n ∧ rootOf n * rootOf n ≤ n ∧ n < (rootOf n + 1) * (rootOf n + 1) := by
  rcases rootOf_spec n with ⟨h1, _⟩ | ⟨_, r0, r1, r2⟩
  · omega
  · exact ⟨r0, r1, r2⟩
theorem dsq_nonneg (x0 y0 x1 y1 : Int) : 0 ≤ dsq x0 y0 x1 y1 := by
  unfold dsq
  have := sq_nonneg (x1 - x0)
  have := sq_nonneg (y1 - y0)
  omega
theorem dOf_le {x0 y0 x1 y1 D : Int} (hD : 0 ≤ D) (h : 4 * dsq x0 y0 x1 y1 < (2 * D + 4) * (2 * D + 4)) : dOf x0 y0 x1 y1 ≤ D + 2 := by
  have h0 := dsq_nonneg x0 y0 x1 y1
  obtain ⟨r0, r1, _⟩ := rootOf_out (n := 4 * dsq x0 y0 x1 y1) (by omega)
  have : rootOf (4 * dsq x0 y0 x1 y1) < 2 * D + 4 := sq_lt r0 (by omega) (by omega)
  unfold dOf
  omega
theorem dOf_nonneg (x0 y0 x1 y1 : Int) : 0 ≤ dOf x0 y0 x1 y1 := by
  have h0 := dsq_nonneg x0 y0 x1 y1
  obtain ⟨r0, _, _⟩ := rootOf_out (n := 4 * dsq x0 y0 x1 y1) (by omega)
  unfold dOf
  omega
theorem dsq_le (x0 y0 x1 y1 : Int) : dsq x0 y0 x1 y1 ≤ dOf x0 y0 x1 y1 * dOf x0 y0 x1 y1 + dOf x0 y0 x1 y1 := by
  have h0 := dsq_nonneg x0 y0 x1 y1
  obtain ⟨r0, _, r2⟩ := rootOf_out (n := 4 * dsq x0 y0 x1 y1) (by omega)
  have h1 : rootOf (4 * dsq x0 y0 x1 y1) + 1 ≤ 2 * dOf x0 y0 x1 y1 + 1 := by unfold dOf; omega
  have h2 := Int.mul_le_mul h1 h1 (by omega) (by have := dOf_nonneg x0 y0 x1 y1; omega)
  generalize dOf x0 y0 x1 y1 = D at *
  have e : (2 * D + 1) * (2 * D + 1) = 4 * (D * D + D) + 1 := by grind
  omega
theorem dsq_comm (x0 y0 x1 y1 : Int) : dsq x0 y0 x1 y1 = dsq x1 y1 x0 y0 := by unfold dsq; grind
theorem dOf_comm (x0 y0 x1 y1 : Int) : dOf x0 y0 x1 y1 = dOf x1 y1 x0 y0 := by unfold dOf; rw [dsq_comm]
theorem mul_self_zero {a : Int} (h : a * a = 0) : a = 0 := by
  rcases Int.mul_eq_zero.1 h with h | h <;> exact h

/-- No corner of the stretch is nearer by more than two. -/
theorem foot_corner (x0 y0 x1 y1 px py cx cy : Int) (hc : (cx = x0 ∧ cy = y0) ∨ (cx = x1 ∧ cy = y1)) : dOf px py (footX x0 y0 x1 y1 px py) (footY x0 y0 x1 y1 px py) ≤ dOf cx cy px py + 2 := by
  refine dOf_le (dOf_nonneg _ _ _ _) ?_
  have hCD := dsq_le cx cy px py
  have hD := dOf_nonneg cx cy px py
  generalize dOf cx cy px py = D at *
  have k9 : (2 * D + 4) * (2 * D + 4) = 4 * (D * D + D) + 12 * D + 16 := by grind
  have eC : dsq cx cy px py = (px - x0) * (px - x0) + (py - y0) * (py - y0) ∨ dsq cx cy px py = ((px - x0) - (x1 - x0)) * ((px - x0) - (x1 - x0)) + ((py - y0) - (y1 - y0)) * ((py - y0) - (y1 - y0)) := by
    rcases hc with ⟨rfl, rfl⟩ | ⟨rfl, rfl⟩
    · exact .inl rfl
    · refine .inr ?_
      unfold dsq
      grind
  unfold footX footY
  by_cases h1 : uvOf x0 y0 x1 y1 px py ≤ 0
  · rw [if_pos h1, if_pos h1, k9]
    have : dsq px py x0 y0 ≤ dsq cx cy px py := by
      unfold uvOf at h1
      rcases eC with e | e
      · rw [e]; unfold dsq; refine Int.le_of_eq ?_; grind
      · have e2 : ((px - x0) - (x1 - x0)) * ((px - x0) - (x1 - x0)) + ((py - y0) - (y1 - y0)) * ((py - y0) - (y1 - y0)) = dsq px py x0 y0 + ((x1 - x0) * (x1 - x0) + (y1 - y0) * (y1 - y0)) - 2 * ((x1 - x0) * (px - x0) + (y1 - y0) * (py - y0)) := by unfold dsq; grind
        have := sq_nonneg (x1 - x0)
        have := sq_nonneg (y1 - y0)
        omega
    omega
  · rw [if_neg h1, if_neg h1]
    by_cases h2 : dsq x0 y0 x1 y1 ≤ uvOf x0 y0 x1 y1 px py
    · rw [if_pos h2, if_pos h2, k9]
      have : dsq px py x1 y1 ≤ dsq cx cy px py := by
        unfold uvOf at h1 h2
        have e0 : dsq px py x1 y1 = ((px - x0) - (x1 - x0)) * ((px - x0) - (x1 - x0)) + ((py - y0) - (y1 - y0)) * ((py - y0) - (y1 - y0)) := by unfold dsq; grind
        rcases eC with e | e
        · have e2 : ((px - x0) - (x1 - x0)) * ((px - x0) - (x1 - x0)) + ((py - y0) - (y1 - y0)) * ((py - y0) - (y1 - y0)) = ((px - x0) * (px - x0) + (py - y0) * (py - y0)) + dsq x0 y0 x1 y1 - 2 * ((x1 - x0) * (px - x0) + (y1 - y0) * (py - y0)) := by unfold dsq; grind
          have := dsq_nonneg x0 y0 x1 y1
          omega
        · omega
      omega
    · rw [if_neg h2, if_neg h2]
      have hW : 0 < dsq x0 y0 x1 y1 := uv_pos (x2 := px) (y2 := py) (by omega)
      obtain ⟨ex, e1, x0', x1'⟩ := floor_rest (n := (x1 - x0) * uvOf x0 y0 x1 y1 px py) hW
      obtain ⟨ey, e2, y0', y1'⟩ := floor_rest (n := (y1 - y0) * uvOf x0 y0 x1 y1 px py) hW
      have key := round_far (ux := x1 - x0) (uy := y1 - y0) (vx := px - x0) (vy := py - y0) (W := dsq x0 y0 x1 y1) (t := uvOf x0 y0 x1 y1 px py) hW rfl rfl e1 e2 x0' x1' y0' y1' eC hD hCD
      have e3 : dsq px py (x0 + shareOf (x1 - x0) (uvOf x0 y0 x1 y1 px py) (dsq x0 y0 x1 y1)) (y0 + shareOf (y1 - y0) (uvOf x0 y0 x1 y1 px py) (dsq x0 y0 x1 y1)) = (px - x0 - (x1 - x0) * uvOf x0 y0 x1 y1 px py / dsq x0 y0 x1 y1) * (px - x0 - (x1 - x0) * uvOf x0 y0 x1 y1 px py / dsq x0 y0 x1 y1) + (py - y0 - (y1 - y0) * uvOf x0 y0 x1 y1 px py / dsq x0 y0 x1 y1) * (py - y0 - (y1 - y0) * uvOf x0 y0 x1 y1 px py / dsq x0 y0 x1 y1) := by
        unfold shareOf
        generalize (x1 - x0) * uvOf x0 y0 x1 y1 px py / dsq x0 y0 x1 y1 = p
        generalize (y1 - y0) * uvOf x0 y0 x1 y1 px py / dsq x0 y0 x1 y1 = q
        unfold dsq
        grind
      rw [e3]
      exact key
/-- A corner itself is no way off. -/
theorem foot_self (x0 y0 x1 y1 cx cy : Int) (hc : (cx = x0 ∧ cy = y0) ∨ (cx = x1 ∧ cy = y1)) : dOf cx cy (footX x0 y0 x1 y1 cx cy) (footY x0 y0 x1 y1 cx cy) = 0 := by
  rcases hc with ⟨rfl, rfl⟩ | ⟨rfl, rfl⟩
  · have h : uvOf cx cy x1 y1 cx cy ≤ 0 := by unfold uvOf; simp
    unfold footX footY
    rw [if_pos h, if_pos h]
    exact dOf_self _ _
  · have e : uvOf x0 y0 cx cy cx cy = dsq x0 y0 cx cy := rfl
    unfold footX footY
    rw [e]
    by_cases h : dsq x0 y0 cx cy ≤ 0
    · have h0 := dsq_nonneg x0 y0 cx cy
      have e0 : dsq x0 y0 cx cy = 0 := by omega
      have a1 := sq_nonneg (cx - x0)
      have a2 := sq_nonneg (cy - y0)
      unfold dsq at e0
      have b1 : (cx - x0) * (cx - x0) = 0 := by omega
      have b2 : (cy - y0) * (cy - y0) = 0 := by omega
      have c1 := mul_self_zero b1
      have c2 := mul_self_zero b2
      obtain rfl : cx = x0 := by omega
      obtain rfl : cy = y0 := by omega
      rw [if_pos h, if_pos h]
      exact dOf_self _ _
    · rw [if_neg h, if_neg h, if_pos (Int.le_refl _), if_pos (Int.le_refl _)]
      exact dOf_self _ _
/-- The foot lies within its stretch. -/
theorem foot_in (x0 y0 x1 y1 px py : Int) : (min x0 x1 ≤ footX x0 y0 x1 y1 px py ∧ footX x0 y0 x1 y1 px py ≤ max x0 x1) ∧ min y0 y1 ≤ footY x0 y0 x1 y1 px py ∧ footY x0 y0 x1 y1 px py ≤ max y0 y1 := by
  unfold footX footY
  split
  · omega
  · split
    · omega
    · obtain ⟨s1, s2⟩ := share_in (n := x1 - x0) (p := uvOf x0 y0 x1 y1 px py) (d := dsq x0 y0 x1 y1) (by omega) (by omega) (by omega)
      obtain ⟨s3, s4⟩ := share_in (n := y1 - y0) (p := uvOf x0 y0 x1 y1 px py) (d := dsq x0 y0 x1 y1) (by omega) (by omega) (by omega)
      generalize shareOf (x1 - x0) (uvOf x0 y0 x1 y1 px py) (dsq x0 y0 x1 y1) = p at *
      generalize shareOf (y1 - y0) (uvOf x0 y0 x1 y1 px py) (dsq x0 y0 x1 y1) = q at *
      rcases Int.le_total 0 (x1 - x0) with a | a <;> rcases Int.le_total 0 (y1 - y0) with b | b
      · have := s1 a; have := s3 b; omega
      · have := s1 a; have := s4 b; omega
      · have := s2 a; have := s3 b; omega
      · have := s2 a; have := s4 b; omega

theorem best_lt (n : Nat) (X Y : Nat → Int) (px py : Int) : ∀ k, bestL n X Y px py k ≤ k
  | 0 => Nat.le_refl _
  | k + 1 => by
    simp only [bestL]
    have := best_lt n X Y px py k
    split <;> omega
/-- A stretch at each corner. -/
theorem leg_of {n i : Nat} (h : i < n) : ∃ j, j < legs n ∧ (i = j ∨ i = toI n j) := by
  by_cases hl : i < legs n
  · exact ⟨i, hl, .inl rfl⟩
  · unfold legs at hl ⊢
    by_cases h1 : n ≤ 1
    · rw [if_pos h1] at hl; omega
    · rw [if_neg h1] at hl ⊢
      refine ⟨n - 2, by omega, .inr ?_⟩
      unfold toI
      rw [if_pos (by omega)]
      omega
/-- All that the law asks of the nearest place. -/
structure Nrs (n : Nat) (X Y : Nat → Int) (px py : Int) (k : Nat) (A fx fy F : Int) : Prop where
  val : nqv n X Y px py = ft (k : Int) A fx fy F
  lt : k < n
  ok : POk fx fy
  near : ∀ i, i < n → F ≤ dOf (X i) (Y i) px py + 2
  inx : min (X k) (X (toI n k)) ≤ fx ∧ fx ≤ max (X k) (X (toI n k))
  iny : min (Y k) (Y (toI n k)) ≤ fy ∧ fy ≤ max (Y k) (Y (toI n k))
  far : F = dOf fx fy px py
  at' : A = dOf (X k) (Y k) fx fy
theorem nrs_of {n : Nat} {X Y : Nat → Int} {px py : Int} (hn : n ≠ 0) (hr : rowB n X Y = true) (hp : pok px py = true) : ∃ k A fx fy F, Nrs n X Y px py k A fx fy F := by
  have hl : legs n ≠ 0 := by unfold legs; split <;> omega
  have hln : legs n ≤ n := by unfold legs; split <;> omega
  obtain ⟨m, hm⟩ : ∃ m, legs n = m + 1 := ⟨legs n - 1, by omega⟩
  have hb := best_lt n X Y px py m
  have hval := nq_yes hr hp
  rw [hm] at hval
  have hok := (rowB_out hr).2
  have hin := foot_in (X (bestL n X Y px py m)) (Y (bestL n X Y px py m)) (X (toI n (bestL n X Y px py m))) (Y (toI n (bestL n X Y px py m))) px py
  refine ⟨bestL n X Y px py m, _, _, _, _, hval, by omega, leg_ok hok (by omega), fun i hi => ?_, hin.1, hin.2, dOf_comm _ _ _ _, rfl⟩
  obtain ⟨j, hj, hij⟩ := leg_of hi
  refine Int.le_trans (best_le n X Y px py m j (by omega)) ?_
  unfold legF legX legY
  exact foot_corner _ _ _ _ _ _ _ _ (by rcases hij with rfl | rfl; (· exact .inl ⟨rfl, rfl⟩); (· exact .inr ⟨rfl, rfl⟩))
theorem nrs_zero {n i : Nat} {X Y : Nat → Int} (hi : i < n) (hr : rowB n X Y = true) : ∃ k A fx fy, nqv n X Y (X i) (Y i) = ft k A fx fy 0 := by
  have hl : legs n ≠ 0 := by unfold legs; split <;> omega
  obtain ⟨m, hm⟩ : ∃ m, legs n = m + 1 := ⟨legs n - 1, by omega⟩
  have hval := nq_yes (px := X i) (py := Y i) hr (pOk_iff.2 ((rowB_out hr).2 i hi))
  rw [hm] at hval
  refine ⟨nrL n X Y (X i) (Y i) (m + 1), nrA n X Y (X i) (Y i) (m + 1), nrX n X Y (X i) (Y i) (m + 1), nrY n X Y (X i) (Y i) (m + 1), hval.trans ?_⟩
  obtain ⟨j, hj, hij⟩ := leg_of hi
  have h1 := best_le n X Y (X i) (Y i) m j (by omega)
  have h2 : legF n X Y (X i) (Y i) j = 0 := by
    unfold legF legX legY
    exact foot_self _ _ _ _ _ _ (by rcases hij with rfl | rfl; (· exact .inl ⟨rfl, rfl⟩); (· exact .inr ⟨rfl, rfl⟩))
  have h3 : 0 ≤ legF n X Y (X i) (Y i) (bestL n X Y (X i) (Y i) m) := dOf_nonneg _ _ _ _
  have h4 : nrF n X Y (X i) (Y i) (m + 1) = 0 := by show legF n X Y (X i) (Y i) (bestL n X Y (X i) (Y i) m) = 0; omega
  show ft _ _ _ _ (nrF n X Y (X i) (Y i) (m + 1)) = _
  rw [h4]
end Go.Proofs.Ytkknbapcbcialaa
