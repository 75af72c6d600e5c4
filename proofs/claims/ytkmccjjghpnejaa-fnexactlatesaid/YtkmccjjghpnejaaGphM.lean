/-
  When a graph can be: plain mathematics.
-/
import Derived.Test.YtkmccjjghpnejaaGphD
namespace Go.Proofs.Ytkmccjjghpnejaa
open Go.RowKit Go.Maps

/-- An Id can be. -/
def idk (x : Int) : Bool := decide (0 < x) && decide (x ≤ 1000000000)
theorem idk_iff {x : Int} : idk x = true ↔ 0 < x ∧ x ≤ 1000000000 := by simp [idk]
theorem idk_not {x : Int} : idk x = false ↔ ¬ (0 < x ∧ x ≤ 1000000000) := by simp only [idk, Bool.and_eq_false_iff, decide_eq_false_iff_not]; omega

def spotsP (l : List SpotD) : Prop := ∀ i (h : i < l.length), idk l[i].id = true ∧ pok l[i].x l[i].y = true ∧ (0 < i → (l[i - 1]'(by omega)).id < l[i].id)
/-- A number of something in a list of n. -/
def inN (n : Nat) (x : Int) : Bool := decide (0 ≤ x) && decide (x < n)
theorem inN_iff {n : Nat} {x : Int} : inN n x = true ↔ 0 ≤ x ∧ x < n := by simp [inN]
theorem inN_not {n : Nat} {x : Int} : inN n x = false ↔ ¬ (0 ≤ x ∧ x < n) := by simp only [inN, Bool.and_eq_false_iff, decide_eq_false_iff_not]; omega
theorem inN_nat {n : Nat} {x : Int} (h : inN n x = true) : ∃ i : Nat, i < n ∧ x = i := by
 obtain ⟨h1, h2⟩ := inN_iff.1 h
 exact ⟨x.toNat, by omega, by omega⟩
def roadB (n : Nat) (r : RoadD) : Bool := inN n r.fr && (inN n r.to && (idk r.way && (decide (1 ≤ r.time) && (decide (r.time ≤ 1000000) && (decide (0 ≤ r.len) && decide (r.len ≤ 1000000000))))))
def roadsP (n : Nat) (l : List RoadD) : Prop := ∀ i (h : i < l.length), roadB n l[i] = true
theorem roadB_out {n : Nat} {r : RoadD} (h : roadB n r = true) : (0 ≤ r.fr ∧ r.fr < n) ∧ (0 ≤ r.to ∧ r.to < n) ∧ (0 < r.way ∧ r.way ≤ 1000000000) ∧ (1 ≤ r.time ∧ r.time ≤ 1000000) ∧ 0 ≤ r.len ∧ r.len ≤ 1000000000 := by
 simp only [roadB, inN, idk, Bool.and_eq_true, decide_eq_true_eq] at h
 omega
def banLt (a b : BanD) : Prop := a.fr < b.fr ∨ a.fr = b.fr ∧ a.to < b.to
/-- A ban of roads that meet. -/
def meetsP (rs : List RoadD) (b : BanD) : Prop := ∃ i j, ∃ hi : i < rs.length, ∃ hj : j < rs.length, b.fr = i ∧ b.to = j ∧ rs[i].to = rs[j].fr
def bansP (rs : List RoadD) (l : List BanD) : Prop := ∀ i (h : i < l.length), meetsP rs l[i] ∧ (0 < i → banLt (l[i - 1]'(by omega)) l[i])
def graphP (g : GraphD) : Prop := (g.places.length ≤ 5000 ∧ g.roads.length ≤ 8000 ∧ g.bans.length ≤ 2000) ∧ spotsP g.places ∧ roadsP g.places.length g.roads ∧ bansP g.roads g.bans

theorem spotsP_at {l : List SpotD} {k : Nat} (hk : k < l.length) (h : idk l[k].id = false ∨ pok l[k].x l[k].y = false ∨ ∃ m, ∃ e : k = m + 1, l[k].id ≤ (l[m]'(by omega)).id) : bP (spotsP l) = false := bP_false fun hh => by
 obtain ⟨h1, h2, h3⟩ := hh k hk
 rcases h with h | h | ⟨m, rfl, h⟩
 ·rw [h] at h1; cases h1
 ·rw [h] at h2; cases h2
 ·have := h3 (Nat.succ_pos _)
  simp only [Nat.add_sub_cancel] at this
  omega
theorem meetsP_fr {rs : List RoadD} {b : BanD} (h : inN rs.length b.fr = false) : ¬ meetsP rs b := by
 rintro ⟨i, j, hi, hj, e, _⟩
 exact inN_not.1 h (by rw [e]; omega)
theorem meetsP_to {rs : List RoadD} {b : BanD} (h : inN rs.length b.to = false) : ¬ meetsP rs b := by
 rintro ⟨i, j, hi, hj, _, e, _⟩
 exact inN_not.1 h (by rw [e]; omega)
theorem meetsP_at {rs : List RoadD} {b : BanD} {i j : Nat} (hi : i < rs.length) (hj : j < rs.length) (e1 : b.fr = i) (e2 : b.to = j) : meetsP rs b ↔ rs[i].to = rs[j].fr := by
 constructor
 ·rintro ⟨i', j', hi', hj', a1, a2, a3⟩
  obtain rfl : i' = i := by omega
  obtain rfl : j' = j := by omega
  exact a3
 ·exact fun h => ⟨i, j, hi, hj, e1, e2, h⟩
theorem bansP_at {rs : List RoadD} {l : List BanD} {k : Nat} (hk : k < l.length) (h : ¬ meetsP rs l[k] ∨ ∃ m, ∃ e : k = m + 1, ¬ banLt (l[m]'(by omega)) l[k]) : bP (bansP rs l) = false := bP_false fun hh => by
 obtain ⟨h1, h2⟩ := hh k hk
 rcases h with h | ⟨m, rfl, h⟩
 ·exact h h1
 ·have := h2 (Nat.succ_pos _)
  simp only [Nat.add_sub_cancel] at this
  exact h this
end Go.Proofs.Ytkmccjjghpnejaa
