/-
  Contracts of Root, in the program and in its model: for every int64 both tell the whole root (-1 below 0).
-/
import Derived.Test.YtonedkibbdbgjaaLen
import Derived.Test.YtonedkibbdbgjaaOpen
namespace Go.Proofs.Ytonedkibbdbgjaa
open Go.ChangeShapes Go.WideShapes Go.ChangeAt Go.RowKit

/-- The whole root, counted up. -/
def sqr : Nat → Nat
  | 0 => 0
  | n + 1 => if (sqr n + 1) * (sqr n + 1) ≤ n + 1 then sqr n + 1 else sqr n

theorem sqr_spec : ∀ n, sqr n * sqr n ≤ n ∧ n < (sqr n + 1) * (sqr n + 1)
  | 0 => by decide
  | n + 1 => by
    obtain ⟨h1, h2⟩ := sqr_spec n
    rw [sqr]
    split
    · rename_i h
      refine ⟨h, ?_⟩
      have e : (sqr n + 1 + 1) * (sqr n + 1 + 1) = (sqr n + 1) * (sqr n + 1) + 2 * (sqr n + 1) + 1 := by simp only [Nat.mul_add, Nat.add_mul, Nat.mul_one, Nat.one_mul]; omega
      omega
    · rename_i h
      exact ⟨by omega, by omega⟩

/-- The whole root as both tell it: -1 below 0. -/
def rootOf (n : Int) : Int := if n < 0 then -1 else (sqr n.toNat : Nat)

/-- The whole root as both tell it: -1 below 0. -/
def IsRootOr (n r : Int) : Prop := (n < 0 ∧ r = -1) ∨ (0 ≤ n ∧ IsRoot n r)

theorem isRootOr_unique {n a b : Int} (ha : IsRootOr n a) (hb : IsRootOr n b) : a = b := by
  rcases ha with ⟨h, rfl⟩ | ⟨h, ha⟩ <;> rcases hb with ⟨h', rfl⟩ | ⟨h', hb⟩
  · rfl
  · omega
  · omega
  · exact isRoot_unique ha hb

theorem rootOf_spec (n : Int) : IsRootOr n (rootOf n) := by
  unfold rootOf
  split
  · exact .inl ⟨by assumption, rfl⟩
  · have h := sqr_spec n.toNat
    generalize sqr n.toNat = s at h
    obtain ⟨h1, h2⟩ := h
    refine .inr ⟨by omega, by omega, ?_, ?_⟩
    · have e : ((s * s : Nat) : Int) = (s : Int) * s := by simp
      omega
    · have e : (((s + 1) * (s + 1) : Nat) : Int) = ((s : Int) + 1) * (s + 1) := by simp
      omega

theorem rootOf_eq {n r : Int} (h : IsRootOr n r) : r = rootOf n := isRootOr_unique h (rootOf_spec n)

/-- A root's bound. -/
theorem rootOf_bd {m : Int} (h0 : 0 ≤ m) (h1 : m ≤ 3200000000000000) : 0 ≤ rootOf m ∧ rootOf m ≤ 56568543 := by
  rcases rootOf_spec m with ⟨h, _⟩ | ⟨_, r0, r1, r2⟩
  · omega
  · refine ⟨r0, ?_⟩
    have : rootOf m < 56568543 + 1 := sq_lt r0 (by omega) (by decide)
    omega

theorem ret_int {k : IntKind} {a b : Int} (h : a = b) : Ending.returned (.int k a) = .returned (.int k b) := by rw [h]

theorem high_sq : (3037000499 + 1 : Int) * (3037000499 + 1) = 9223372037000250000 := by decide

theorem pow_sq (L : Nat) (h : L ≤ 64) : (2 : Nat) ^ ((L + 1) / 2) ≤ 4294967296 ∧ 1 ≤ (2 : Nat) ^ ((L + 1) / 2) ∧ 2 ^ L ≤ 2 ^ ((L + 1) / 2) * 2 ^ ((L + 1) / 2) := by
  refine ⟨?_, Nat.one_le_two_pow, ?_⟩
  · exact Nat.le_trans (Nat.pow_le_pow_right (by decide) (show (L + 1) / 2 ≤ 32 by omega)) (by decide)
  · rw [← Nat.pow_add]; exact Nat.pow_le_pow_right (by decide) (by omega)

theorem newton_start {n : Int} {L : Nat} (h : IsLen n L) (hn : 0 < n) : 0 < wrap64 (2 ^ ((L + 1) / 2)) ∧ wrap64 (2 ^ ((L + 1) / 2)) ≤ 4294967296 ∧ n < (wrap64 (2 ^ ((L + 1) / 2)) + 1) * (wrap64 (2 ^ ((L + 1) / 2)) + 1) := by
  obtain ⟨hL, hlt⟩ := h
  obtain ⟨p1, p2, p3⟩ := pow_sq L hL
  have e : ((2 : Int) ^ ((L + 1) / 2)) = (((2 : Nat) ^ ((L + 1) / 2) : Nat) : Int) := by simp
  rw [e]
  generalize (2 : Nat) ^ ((L + 1) / 2) = m at p1 p2 p3
  have e2 : wrap64 (m : Int) = m := by unfold wrap64; omega
  rw [e2]
  refine ⟨by omega, by omega, ?_⟩
  have h1 : n.toNat < m * m := by omega
  have h2 : ((m * m : Nat) : Int) = (m : Int) * m := by simp
  have h3 : ((m : Int) + 1) * (m + 1) = m * m + 2 * m + 1 := by simp only [Int.mul_add, Int.add_mul, Int.mul_one, Int.one_mul]; omega
  omega

end Go.Proofs.Ytonedkibbdbgjaa
