/-
  Tiles: which can be, how long their sides are, where they lie. Plain mathematics.
-/
namespace Go.Proofs.Ytkknbapcbcialaa

def zmB (z : Int) : Bool := decide (0 ≤ z) && decide (z ≤ 10)
/-- How many tiles a zoom has along, and how long a side is. -/
def zN (z : Int) : Nat := 2 ^ z.toNat
def zS (z : Int) : Nat := 2 ^ (25 - z.toNat)
def tilB (z x y : Int) : Bool := zmB z && (decide (0 ≤ x) && (decide (x < zN z) && (decide (0 ≤ y) && decide (y < zN z))))
theorem zm_out {z : Int} (h : zmB z = true) : ∃ Z : Nat, z = Z ∧ Z ≤ 10 := by
  simp only [zmB, Bool.and_eq_true, decide_eq_true_eq] at h
  exact ⟨z.toNat, by omega, by omega⟩
theorem zm_of {Z : Nat} (h : Z ≤ 10) : zmB (Z : Int) = true := by
  simp only [zmB, Bool.and_eq_true, decide_eq_true_eq]; omega
theorem zN_nat (Z : Nat) : zN (Z : Int) = 2 ^ Z := by simp [zN]
theorem zS_nat (Z : Nat) : zS (Z : Int) = 2 ^ (25 - Z) := by simp [zS]
theorem z_cases {Z : Nat} (h : Z ≤ 10) : Z = 0 ∨ Z = 1 ∨ Z = 2 ∨ Z = 3 ∨ Z = 4 ∨ Z = 5 ∨ Z = 6 ∨ Z = 7 ∨ Z = 8 ∨ Z = 9 ∨ Z = 10 := by omega
theorem zNS {z : Int} (h : zmB z = true) : zN z * zS z = 33554432 ∧ 0 < zS z ∧ 0 < zN z ∧ zN z ≤ 1024 ∧ 32768 ≤ zS z ∧ zS z ≤ 33554432 := by
  obtain ⟨Z, rfl, hZ⟩ := zm_out h
  rw [zN_nat, zS_nat]
  rcases z_cases hZ with rfl | rfl | rfl | rfl | rfl | rfl | rfl | rfl | rfl | rfl | rfl <;> decide
theorem zS_div {Z : Nat} (h : Z ≤ 10) : (33554432 : Int) / 2 ^ Z = (zS (Z : Int) : Int) := by
  rw [zS_nat]
  rcases z_cases h with rfl | rfl | rfl | rfl | rfl | rfl | rfl | rfl | rfl | rfl | rfl <;> decide
theorem zN_int (Z : Nat) : ((2 : Int) ^ Z) = (zN (Z : Int) : Int) := by rw [zN_nat]; simp
theorem til_out {z x y : Int} (h : tilB z x y = true) : zmB z = true ∧ 0 ≤ x ∧ x < zN z ∧ 0 ≤ y ∧ y < zN z := by
  simp only [tilB, Bool.and_eq_true, decide_eq_true_eq] at h
  exact h
/-- What a tile's number times its side is. -/
theorem til_mul {z x : Int} (h : zmB z = true) (h0 : 0 ≤ x) (h1 : x < zN z) : 0 ≤ x * zS z ∧ x * zS z + zS z ≤ 33554432 := by
  obtain ⟨e, s0, _⟩ := zNS h
  have a0 : 0 ≤ x * zS z := Int.mul_nonneg h0 (by omega)
  have a1 : (x + 1) * zS z ≤ (zN z : Int) * zS z := Int.mul_le_mul_of_nonneg_right (by omega) (by omega)
  have a2 : (x + 1) * (zS z : Int) = x * zS z + zS z := by rw [Int.add_mul, Int.one_mul]
  have a3 : (zN z : Int) * zS z = 33554432 := by rw [← Int.natCast_mul, e]; rfl
  omega
/-- A tile's box: its first numbers; how long it is. -/
def tbA (z x : Int) : Int := x * zS z - 16777216
theorem tbA_bd {z x : Int} (h : zmB z = true) (h0 : 0 ≤ x) (h1 : x < zN z) : -16777216 ≤ tbA z x ∧ tbA z x + zS z ≤ 16777216 := by
  have := til_mul h h0 h1
  unfold tbA
  omega
/-- The first and the last tile along that have a coordinate. -/
def tlW (z lo : Int) : Int := (lo + 16777215) / zS z
def tlE (z hi : Int) : Int := (hi + 16777216) / zS z
end Go.Proofs.Ytkknbapcbcialaa
