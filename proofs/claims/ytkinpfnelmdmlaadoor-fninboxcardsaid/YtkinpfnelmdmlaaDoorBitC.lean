/-
  Contracts: mixing the bits of a number with gaps, and taking them together again, in the program (by its tables) and in its model.
-/
import Derived.Test.YtkinpfnelmdmlaaDoorBitM
namespace Go.Proofs.YtkinpfnelmdmlaaDoor
open Go.RowKit

theorem or_nat {a b i : Nat} (h : a < 2 ^ i) : a ||| b * 2 ^ i = a + b * 2 ^ i := by
  have := Nat.shiftLeft_add_eq_or_of_lt h b
  rw [Nat.shiftLeft_eq] at this
  rw [Nat.or_comm, ← this, Nat.add_comm]
theorem or_u64 {a b i : Nat} (h : a < 2 ^ i) (hb : a + b * 2 ^ i < 18446744073709551616) : bits .or .u64 (a : Int) ((b * 2 ^ i : Nat) : Int) = ((a + b * 2 ^ i : Nat) : Int) := by
  have key : (BitVec.ofInt 64 (a : Int) ||| BitVec.ofInt 64 ((b * 2 ^ i : Nat) : Int)).toNat = a + b * 2 ^ i := by
    rw [BitVec.toNat_or, BitVec.toNat_ofInt, BitVec.toNat_ofInt, ← or_nat h]
    congr 1 <;> omega
  show IntKind.u64.wrap ((BitVec.ofInt 64 (a : Int) ||| BitVec.ofInt 64 ((b * 2 ^ i : Nat) : Int)).toNat : Nat) = _
  rw [key, IntKind.wrap_u64]
  omega
theorem or_i64 {a b i : Nat} (h : a < 2 ^ i) (hb : a + b * 2 ^ i < 9223372036854775808) : bits .or .i64 (a : Int) ((b * 2 ^ i : Nat) : Int) = ((a + b * 2 ^ i : Nat) : Int) := by
  have key : (BitVec.ofInt 64 (a : Int) ||| BitVec.ofInt 64 ((b * 2 ^ i : Nat) : Int)).toNat = a + b * 2 ^ i := by
    rw [BitVec.toNat_or, BitVec.toNat_ofInt, BitVec.toNat_ofInt, ← or_nat h]
    congr 1 <;> omega
  show IntKind.i64.wrap ((BitVec.ofInt 64 (a : Int) ||| BitVec.ofInt 64 ((b * 2 ^ i : Nat) : Int)).toNat : Nat) = _
  rw [key, IntKind.wrap_i64]
  omega
theorem and_u64 (k : Nat) (hk : k ≤ 8) (x : Nat) (hx : x < 18446744073709551616) : bits .and .u64 (x : Int) ((2 ^ k - 1 : Nat) : Int) = ((x % 2 ^ k : Nat) : Int) := by
  have h2 : 2 ^ k ≤ 2 ^ 8 := Nat.pow_le_pow_right (by decide) hk
  have h0 : 0 < 2 ^ k := Nat.pow_pos (by decide)
  have key : (BitVec.ofInt 64 (x : Int) &&& BitVec.ofInt 64 ((2 ^ k - 1 : Nat) : Int)).toNat = x % 2 ^ k := by
    rw [BitVec.toNat_and, BitVec.toNat_ofInt, BitVec.toNat_ofInt, ← Nat.and_two_pow_sub_one_eq_mod]
    congr 1 <;> omega
  have hm : x % 2 ^ k < 2 ^ k := Nat.mod_lt _ h0
  show IntKind.u64.wrap ((BitVec.ofInt 64 (x : Int) &&& BitVec.ofInt 64 ((2 ^ k - 1 : Nat) : Int)).toNat : Nat) = _
  rw [key, IntKind.wrap_u64]
  omega
theorem and_i64 (k : Nat) (hk : k ≤ 8) (x : Nat) (hx : x < 9223372036854775808) : bits .and .i64 (x : Int) ((2 ^ k - 1 : Nat) : Int) = ((x % 2 ^ k : Nat) : Int) := by
  have h2 : 2 ^ k ≤ 2 ^ 8 := Nat.pow_le_pow_right (by decide) hk
  have h0 : 0 < 2 ^ k := Nat.pow_pos (by decide)
  have key : (BitVec.ofInt 64 (x : Int) &&& BitVec.ofInt 64 ((2 ^ k - 1 : Nat) : Int)).toNat = x % 2 ^ k := by
    rw [BitVec.toNat_and, BitVec.toNat_ofInt, BitVec.toNat_ofInt, ← Nat.and_two_pow_sub_one_eq_mod]
    congr 1 <;> omega
  have hm : x % 2 ^ k < 2 ^ k := Nat.mod_lt _ h0
  show IntKind.i64.wrap ((BitVec.ofInt 64 (x : Int) &&& BitVec.ofInt 64 ((2 ^ k - 1 : Nat) : Int)).toNat : Nat) = _
  rw [key, IntKind.wrap_i64]
  omega
theorem wr64 {n : Int} (h : -9223372036854775808 ≤ n ∧ n ≤ 9223372036854775807) : wrap64 n = n := by unfold wrap64; omega
theorem pow_i (k : Nat) : ((2 : Int) ^ k) = ((2 ^ k : Nat) : Int) := by simp


theorem four_two (k : Nat) : 4 ^ k = 2 ^ (2 * k) := by rw [Nat.pow_mul]
theorem two_le {a b : Nat} (h : a ≤ b) : 2 ^ a ≤ 2 ^ b := Nat.pow_le_pow_right (by decide) h
theorem mul_two_le {b m a : Nat} (hb : b ≤ m) : b * 2 ^ a ≤ m * 2 ^ a := Nat.mul_le_mul_right _ hb
/-- One round of the model's mixing. -/
theorem spr_or {k x : Nat} (hk : k < 25) (hx : x < 18446744073709551616) :
    bits .or .u64 ((spr k x : Nat) : Int) (IntKind.u64.wrap (bits .and .u64 ((x : Int) / 2 ^ k) 1 * 2 ^ (2 * k))) = ((spr (k + 1) x : Nat) : Int) := by
  have e1 : ((x : Int) / 2 ^ k) = ((x / 2 ^ k : Nat) : Int) := by rw [pow_i]; rfl
  have hq : x / 2 ^ k < 18446744073709551616 := Nat.lt_of_le_of_lt (Nat.div_le_self _ _) hx
  have e2 := and_u64 1 (by decide) (x / 2 ^ k) hq
  have e2 : bits .and .u64 ((x / 2 ^ k : Nat) : Int) 1 = ((x / 2 ^ k % 2 : Nat) : Int) := e2
  have h3 : x / 2 ^ k % 2 * 2 ^ (2 * k) ≤ 1 * 2 ^ (2 * k) := mul_two_le (by omega)
  have h4 : 2 ^ (2 * k) ≤ 2 ^ 48 := two_le (by omega)
  have hs := spr_lt k x
  rw [four_two] at hs
  rw [e1, e2, pow_i, ← Int.natCast_mul, IntKind.wrap_u64, Int.emod_eq_of_lt (by omega) (by omega), or_u64 hs (by omega), ← four_two]
  rfl
/-- One round of the model's taking together. -/
theorem gth_or {k x : Nat} (hk : k < 25) (hx : x < 18446744073709551616) :
    bits .or .u64 ((gth k x : Nat) : Int) (IntKind.u64.wrap (bits .and .u64 ((x : Int) / 2 ^ (2 * k)) 1 * 2 ^ k)) = ((gth (k + 1) x : Nat) : Int) := by
  have e1 : ((x : Int) / 2 ^ (2 * k)) = ((x / 2 ^ (2 * k) : Nat) : Int) := by rw [pow_i]; rfl
  have hq : x / 2 ^ (2 * k) < 18446744073709551616 := Nat.lt_of_le_of_lt (Nat.div_le_self _ _) hx
  have e2 := and_u64 1 (by decide) (x / 2 ^ (2 * k)) hq
  have e2 : bits .and .u64 ((x / 2 ^ (2 * k) : Nat) : Int) 1 = ((x / 2 ^ (2 * k) % 2 : Nat) : Int) := e2
  have h3 : x / 2 ^ (2 * k) % 2 * 2 ^ k ≤ 1 * 2 ^ k := mul_two_le (by omega)
  have h4 : 2 ^ k ≤ 2 ^ 24 := two_le (by omega)
  have hs := gth_lt k x
  rw [e1, e2, pow_i k, ← Int.natCast_mul, IntKind.wrap_u64, Int.emod_eq_of_lt (by omega) (by omega), or_u64 hs (by omega), ← four_two]
  rfl
/-- One round of the program's mixing: four bits, by the table. -/
theorem spr_tab {j x : Nat} {t : Int} (hj : j < 7) (ht : t = ((spr 4 (x / 2 ^ (4 * j) % 16) : Nat) : Int)) :
    bits .or .u64 ((spr (4 * j) x : Nat) : Int) (IntKind.u64.wrap (t * 2 ^ (2 * (4 * j)))) = ((spr (4 * j + 4) x : Nat) : Int) := by
  have hs := spr_lt (4 * j) x
  have h4 := spr_lt 4 (x / 2 ^ (4 * j) % 16)
  rw [four_two] at hs
  have h3 : spr 4 (x / 2 ^ (4 * j) % 16) * 2 ^ (2 * (4 * j)) ≤ 255 * 2 ^ (2 * (4 * j)) := mul_two_le (by omega)
  have h5 : 2 ^ (2 * (4 * j)) ≤ 2 ^ 48 := two_le (by omega)
  rw [ht, pow_i, ← Int.natCast_mul, IntKind.wrap_u64, Int.emod_eq_of_lt (by omega) (by omega), or_u64 hs (by omega), spr_four (4 * j), four_two (4 * j)]
/-- One round of the program's taking together: two bits, by the table. -/
theorem gth_tab {j x : Nat} {t : Int} (hj : j < 13) (ht : t = ((x / 4 ^ (2 * j) % 8 % 2 + x / 4 ^ (2 * j) % 8 / 4 * 2 : Nat) : Int)) :
    bits .or .i64 ((gth (2 * j) x : Nat) : Int) (wrap64 (t * 2 ^ (2 * j))) = ((gth (2 * j + 2) x : Nat) : Int) := by
  have hs := gth_lt (2 * j) x
  have h3 : (x / 4 ^ (2 * j) % 8 % 2 + x / 4 ^ (2 * j) % 8 / 4 * 2) * 2 ^ (2 * j) ≤ 3 * 2 ^ (2 * j) := mul_two_le (by omega)
  have h5 : 2 ^ (2 * j) ≤ 2 ^ 24 := two_le (by omega)
  rw [ht, pow_i, ← Int.natCast_mul, wr64 (by omega), or_i64 hs (by omega), gth_two (2 * j)]

/-- The table of mixed bits lies as the program's text lays it. -/
def SpTab (w : World) : Prop := 0 < w.heap.size ∧ ∀ t, t < 16 → w.cell? ⟨0, t, none⟩ = some (.int .u64 ((spr 4 t : Nat) : Int))
theorem SpTab.bel {w w' : World} (h : SpTab w) (hb : Bel w w') : SpTab w' := ⟨Nat.lt_of_lt_of_le h.1 hb.out.size, fun t ht => by rw [hb.out.cell (p := ⟨0, t, none⟩) h.1]; exact h.2 t ht⟩
/-- The table of bits taken together lies as the program's text lays it. -/
def GtTab (w : World) : Prop := 1 < w.heap.size ∧ ∀ t, t < 8 → w.cell? ⟨1, t, none⟩ = some (.int .i64 ((t % 2 + t / 4 * 2 : Nat) : Int))
theorem GtTab.bel {w w' : World} (h : GtTab w) (hb : Bel w w') : GtTab w' := ⟨Nat.lt_of_lt_of_le h.1 hb.out.size, fun t ht => by rw [hb.out.cell (p := ⟨1, t, none⟩) h.1]; exact h.2 t ht⟩

set_option maxHeartbeats 1000000 in
theorem spread_any (x : Nat) (w : World) (hT : SpTab w) (hx : x < 33554432) :
    Calls Tryd.prog 23 #[.int .i64 x] w fun e w' => e = .returned (.int .u64 ((spr 25 x : Nat) : Int)) ∧ w' = w := by
  go_enter Tryd.func23, Tryd.ntmps23
  go_wp2
  go_loopw [3, 4] (fun o i wr => ∃ j : Nat, j ≤ 7 ∧ o = .int .u64 ((spr (4 * j) x : Nat) : Int) ∧ i = .int .i64 ((4 * j : Nat) : Int) ∧ wr = w) (fun _ i _ => 28 - (intOf i).toNat)
  case atStart => exact ⟨0, by omega, rfl, rfl, rfl⟩
  case round =>
    obtain ⟨j, hj, rfl, rfl, rfl⟩ := hrel
    by_cases hlt : j < 7
    · have hq : x / 2 ^ (4 * j) < 9223372036854775808 := Nat.lt_of_le_of_lt (Nat.div_le_self _ _) (by omega)
      have e1 : ((x : Int) / 2 ^ (4 * j)) = ((x / 2 ^ (4 * j) : Nat) : Int) := by rw [pow_i]; rfl
      have e2 : bits .and .i64 ((x : Int) / 2 ^ (4 * j)) 15 = ((x / 2 ^ (4 * j) % 16 : Nat) : Int) := by rw [e1]; exact and_i64 4 (by decide) _ hq
      have hc := hT.2 (x / 2 ^ (4 * j) % 16) (Nat.mod_lt _ (by decide))
      obtain ⟨s, hs⟩ : ∃ s, spr (4 * j) x = s := ⟨_, rfl⟩
      obtain ⟨t, ht⟩ : ∃ t, x / 2 ^ (4 * j) % 16 = t := ⟨_, rfl⟩
      have ht' : t < 16 := by rw [← ht]; exact Nat.mod_lt _ (by decide)
      obtain ⟨u, hu⟩ : ∃ u, spr 4 t = u := ⟨_, rfl⟩
      rw [hs]
      rw [ht, hu] at hc
      rw [ht] at e2
      have hlt' : ((4 * j : Nat) : Int) < 25 := by omega
      clear hT
      have HT : Hid (x / 2 ^ (4 * j) % 16 = t) := ht
      have HS : Hid (spr (4 * j) x = s) := hs
      have HU : Hid (spr 4 t = u) := hu
      clear ht hs hu e1
      go_wp2
      go_roundw
      case rel => exact ⟨j + 1, by omega, by rw [← HS.out]; exact congrArg _ (spr_tab hlt (by rw [HT.out, HU.out])), by go_num, trivial⟩
      case measure => simp [intOf]; omega
    · have e : j = 7 := by omega
      subst e
      rw [show spr (4 * 7) x = spr 25 x from spr_top x hx]
      go_wp2
      go_ret
      exact ⟨rfl, rfl⟩

end Go.Proofs.YtkinpfnelmdmlaaDoor
