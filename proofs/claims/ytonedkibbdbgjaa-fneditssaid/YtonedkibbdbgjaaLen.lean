/-
  Contract of math/bits.Len64 as it is wanted here: the number that it tells is at most 64, and the argument is below that power of two.
-/
import Derived.Test.YtonedkibbdbgjaaRows
import Derived.Lib.Strings
import Derived.Lib.Slices
import Derived.Lib.Small
import Derived.Lib.Walk
import Derived.Lib.BitFns
import Derived.Lib.ItoaNum
namespace Go.Proofs.Ytonedkibbdbgjaa

/-! ### How many bits a number has: no more is wanted than that the number is below that power of two -/
theorem below_bits (b : Nat) (hb : b ≤ 255) : b < 2 ^ Lib.bitLen b := by
  by_cases h : b = 0
  · subst h; decide
  · exact (Lib.bitLenAux_bounds 64 b (by omega) h).2.2

/-- A number of bits that serves. -/
def IsLen (x : Int) (L : Nat) : Prop := L ≤ 64 ∧ x.toNat < 2 ^ L

theorem len_fin (x b : Int) (k : Nat) (v : Int) (w : World) (hk : k ≤ 56) (hb0 : 0 ≤ b) (hb1 : b ≤ 255) (hb : b.toNat = x.toNat / 2 ^ k) (hv : 0 ≤ Lib.len8 b → Lib.len8 b ≤ 8 → v = k + Lib.len8 b) :
    ∃ L : Nat, IsLen x L ∧ Ending.returned (.int .i64 v) = .returned (.int .i64 L) ∧ w = w := by
  rw [Lib.len8_of b hb0 hb1] at hv
  have l := Lib.bitLen_le8' b hb0 hb1
  refine ⟨k + Lib.bitLen b.toNat, ⟨by omega, ?_⟩, by rw [hv (by omega) (by omega)]; simp, rfl⟩
  have h1 : b.toNat < 2 ^ Lib.bitLen b.toNat := below_bits _ (by omega)
  rw [Nat.pow_add]
  have h2 : x.toNat < 2 ^ k * (x.toNat / 2 ^ k + 1) := Nat.lt_mul_div_succ _ (Nat.two_pow_pos k)
  have h3 : 2 ^ k * (x.toNat / 2 ^ k + 1) ≤ 2 ^ k * 2 ^ Lib.bitLen b.toNat := Nat.mul_le_mul_left _ (by omega)
  omega

end Go.Proofs.Ytonedkibbdbgjaa
