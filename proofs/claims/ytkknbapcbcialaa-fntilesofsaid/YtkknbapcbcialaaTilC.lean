/-
  Contracts of TileOk and TileBox, in the program and in its model: for every tile.
-/
import Derived.Test.YtkknbapcbcialaaTilM
import Derived.Test.YtkknbapcbcialaaMem
import Derived.Test.YtkknbapcbcialaaInbC
namespace Go.Proofs.Ytkknbapcbcialaa
open Go.RowKit

/-- A tile as a value. -/
abbrev til (z x y : Int) : Value := .agg #[.int .i64 z, .int .i64 x, .int .i64 y]
/-- A box as a value. -/
abbrev bxv (q : BoxD) : Value := .agg #[.int .i64 q.a, .int .i64 q.b, .int .i64 q.c, .int .i64 q.d]
/-- The box of a tile. -/
def tbx (z x y : Int) : BoxD := if tilB z x y = true then ⟨tbA z x, tbA z y, tbA z x + zS z, tbA z y + zS z⟩ else ⟨0, 0, 0, 0⟩
theorem tbx_no {z x y : Int} (h : tilB z x y = false) : tbx z x y = ⟨0, 0, 0, 0⟩ := if_neg (by rw [h]; exact Bool.false_ne_true)
theorem tbx_yes {z x y : Int} (h : tilB z x y = true) : tbx z x y = ⟨tbA z x, tbA z y, tbA z x + zS z, tbA z y + zS z⟩ := if_pos h

theorem zoomOk_any (z : Int) (w : World) :
    Calls Try.prog 42 #[.int .i64 z] w fun e w' => e = .returned (.bool (zmB z)) ∧ w' = w := by
  obtain ⟨r, Hr⟩ : ∃ r, Hid (zmB z = r) := ⟨_, (rfl : zmB z = _)⟩
  rw [Hr.out]
  by_cases h1 : 0 ≤ z <;> by_cases h2 : z ≤ 10 <;> (
    have HE : Hid (r = (decide (0 ≤ z) && decide (z ≤ 10))) := Hr.out.symm
    go_enter Try.func42, Try.ntmps42
    go_wp2
    go_ret
    exact ⟨ret_bl (by rw [HE.out]; simp [h1, h2]), rfl⟩)

set_option maxHeartbeats 1000000 in
theorem tileOk_any (z x y : Int) (w : World) :
    Calls Try.prog 17 #[til z x y] w fun e w' => e = .returned (.bool (tilB z x y)) ∧ Bel w w' := by
  have hB : Bel w (w.alloc (.cells #[.int .i64 z, .int .i64 x, .int .i64 y] 42)) := bel_alloc (Bel.refl _) _
  obtain ⟨r, Hr⟩ : ∃ r, Hid (tilB z x y = r) := ⟨_, (rfl : tilB z x y = _)⟩
  rw [Hr.out]
  cases hz : zmB z
  · have HE : Hid (r = false) := by rw [← Hr.out]; unfold tilB; rw [hz]; rfl
    go_enter Try.func17, Try.ntmps17
    go_wp2_with fail
    refine (zoomOk_any _ _).mono ?_
    rintro e w1 ⟨rfl, rfl⟩
    rw [hz]
    go_wp2
    go_ret
    exact ⟨ret_bl HE.out.symm, hB⟩
  · have n1 := (zNS hz).2.2.2.1
    have HE : Hid (r = (decide (0 ≤ x) && (decide (x < zN z) && (decide (0 ≤ y) && decide (y < zN z))))) := by rw [← Hr.out]; unfold tilB; rw [hz]; rfl
    have Hz : Hid (zmB z = true) := hz
    obtain ⟨Z, rfl, hZ⟩ := zm_out hz
    have hn := zN_int Z
    obtain ⟨n, Hn⟩ : ∃ n, Hid (zN (Z : Int) = n) := ⟨_, (rfl : zN (Z : Int) = _)⟩
    rw [Hn.out] at hn n1 HE
    have hw : IntKind.i64.wrap (n : Int) = n := by rw [IntKind.wrap_i64]; omega
    clear hz
    by_cases h1 : 0 ≤ x <;> by_cases h2 : x < n <;> by_cases h3 : 0 ≤ y <;> by_cases h4 : y < n <;> first | (exfalso; omega) | (
      go_enter Try.func17, Try.ntmps17
      go_wp2_with fail
      refine (zoomOk_any _ _).mono ?_
      rintro e w1 ⟨rfl, rfl⟩
      rw [Hz.out]
      go_wp2
      go_ret
      exact ⟨ret_bl (by rw [HE.out]; simp [h1, h2, h3, h4]), hB⟩)

set_option maxHeartbeats 1000000 in
theorem specTileOk_any (z x y : Int) (w : World) :
    Calls Try.prog 53 #[til z x y] w fun e w' => e = .returned (.bool (tilB z x y)) ∧ Bel w w' := by
  have hB : Bel w (w.alloc (.cells #[.int .i64 z, .int .i64 x, .int .i64 y] 42)) := bel_alloc (Bel.refl _) _
  obtain ⟨r, Hr⟩ : ∃ r, Hid (tilB z x y = r) := ⟨_, (rfl : tilB z x y = _)⟩
  rw [Hr.out]
  cases hz : zmB z
  · have HE : Hid (r = false) := by rw [← Hr.out]; unfold tilB; rw [hz]; rfl
    have hz' : ¬ (0 ≤ z ∧ z ≤ 10) := fun h => by simp [zmB, h.1, h.2] at hz
    by_cases h1 : z < 0
    · go_enter Try.func53, Try.ntmps53
      go_wp2
      go_ret
      exact ⟨ret_bl HE.out.symm, hB⟩
    · have h2 : 10 < z := by omega
      go_enter Try.func53, Try.ntmps53
      go_wp2
      go_ret
      exact ⟨ret_bl HE.out.symm, hB⟩
  · have n1 := (zNS hz).2.2.2.1
    have HE : Hid (r = (decide (0 ≤ x) && (decide (x < zN z) && (decide (0 ≤ y) && decide (y < zN z))))) := by rw [← Hr.out]; unfold tilB; rw [hz]; rfl
    obtain ⟨Z, rfl, hZ⟩ := zm_out hz
    have hn := zN_int Z
    obtain ⟨n, Hn⟩ : ∃ n, Hid (zN (Z : Int) = n) := ⟨_, (rfl : zN (Z : Int) = _)⟩
    rw [Hn.out] at hn n1 HE
    have hw : IntKind.i64.wrap (n : Int) = n := by rw [IntKind.wrap_i64]; omega
    clear hz
    by_cases h1 : 0 ≤ x <;> by_cases h2 : x < n <;> by_cases h3 : 0 ≤ y <;> by_cases h4 : y < n <;> first | (exfalso; omega) | (
      go_enter Try.func53, Try.ntmps53
      go_wp2
      go_ret
      exact ⟨ret_bl (by rw [HE.out]; simp [h1, h2, h3, h4]), hB⟩)

theorem sideAt_any (z : Int) (w : World) (hz : zmB z = true) :
    Calls Try.prog 46 #[.int .i64 z] w fun e w' => e = .returned (.int .i64 (zS z)) ∧ w' = w := by
  obtain ⟨Z, rfl, hZ⟩ := zm_out hz
  have hd := zS_div hZ
  clear hz
  go_enter Try.func46, Try.ntmps46
  go_wp2
  go_ret
  exact ⟨rfl, rfl⟩
theorem l6Side_any (z : Int) (w : World) (hz : zmB z = true) :
    Calls Try.prog 70 #[.int .i64 z] w fun e w' => e = .returned (.int .i64 (zS z)) ∧ w' = w := by
  obtain ⟨Z, rfl, hZ⟩ := zm_out hz
  have hd := zS_div hZ
  clear hz
  go_enter Try.func70, Try.ntmps70
  go_wp2
  go_ret
  exact ⟨rfl, rfl⟩
end Go.Proofs.Ytkknbapcbcialaa
