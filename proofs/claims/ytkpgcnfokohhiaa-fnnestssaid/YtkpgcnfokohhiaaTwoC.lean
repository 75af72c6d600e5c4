/-
  Contracts of AreaTwice, in the program and in its model: for every row of points.
-/
import Derived.Test.YtkpgcnfokohhiaaPtsC
import Derived.Test.YtkpgcnfokohhiaaMem
import Derived.Deep.QuietTactic
import Derived.BigQuiet
namespace Go.Proofs.Ytkpgcnfokohhiaa
open Go.RowKit

/-- What one stretch gives. -/
def stw (X Y : Nat → Int) (i : Nat) : Int := X i * Y (i + 1) - Y i * X (i + 1)
/-- The sum over the first stretches. -/
def twS (X Y : Nat → Int) : Nat → Int
  | 0 => 0
  | k + 1 => twS X Y k + stw X Y k
theorem mul_bdA {u v : Int} (u0 : -10000000 ≤ u) (u1 : u ≤ 10000000) (v0 : -10000000 ≤ v) (v1 : v ≤ 10000000) : -100000000000000 ≤ u * v ∧ u * v ≤ 100000000000000 := by
  have := mul_bd 10000000 (by decide) (u := u) (v := v) (by omega) u1 (by omega) v1
  omega
theorem stw_bd {X Y : Nat → Int} {i : Nat} (a : POk (X i) (Y i)) (b : POk (X (i + 1)) (Y (i + 1))) : -200000000000000 ≤ stw X Y i ∧ stw X Y i ≤ 200000000000000 := by
  have h1 := mul_bdA a.x0 a.x1 b.y0 b.y1
  have h2 := mul_bdA a.y0 a.y1 b.x0 b.x1
  unfold stw
  omega
theorem twS_bd {n : Nat} {X Y : Nat → Int} (h : ∀ i, i < n → POk (X i) (Y i)) : ∀ k, k < n → -(200000000000000 * (k : Int)) ≤ twS X Y k ∧ twS X Y k ≤ 200000000000000 * k
  | 0, _ => by simp [twS]
  | k + 1, hk => by
    have h1 := twS_bd h k (by omega)
    have h2 := stw_bd (h k (by omega)) (h (k + 1) hk)
    simp only [twS]
    omega
/-- AreaTwice as both tell it. -/
def twOf (n : Nat) (X Y : Nat → Int) : Int := if rowB n X Y then twS X Y (n - 1) else 0

set_option maxRecDepth 100000 in
set_option maxHeartbeats 2000000 in
theorem twice_any (a : Option Addr) (n c : Nat) (X Y : Nat → Int) (w : World) (hP : Pts w a n X Y) (hn : n ≤ 1048576) :
    Calls Try.prog 37 #[.slice a n c] w fun e w' => e = .returned (.int .i64 (twOf n X Y)) ∧ Bel w w' := by
  by_cases hr : rowB n X Y = true
  · have hd : twOf n X Y = twS X Y (n - 1) := by simp [twOf, hr]
    rw [hd]; clear hd
    obtain ⟨hn', hok⟩ := rowB_out hr
    go_enter Try.func37, Try.ntmps37
    go_wp2_with fail
    refine (rowOk_any _ _ _ _ _ _ hP hn).mono ?_
    rintro e w1 ⟨rfl, hb1⟩
    go_wp2
    go_loopw [3, 4] (fun t i wr => ∃ j : Nat, (j + 1 ≤ n ∨ j = 0) ∧ t = .int .i64 (twS X Y j) ∧ i = .int .i64 ((j : Int) + 1) ∧ Bel w wr) (fun _ i _ => n - (intOf i).toNat)
    case atStart => exact ⟨0, by omega, rfl, rfl, hb1⟩
    case round =>
      obtain ⟨j, hk, rfl, rfl, hbel⟩ := hrel
      by_cases hlt : j + 1 < n
      · rcases hP.bel hbel with h | ⟨b, off, rfl, h2, h3⟩
        · omega
        · obtain ⟨cx, cy⟩ := h3 j (by omega)
          obtain ⟨cx', cy'⟩ := h3 (j + 1) hlt
          have pa := hok j (by omega)
          have pb := hok (j + 1) hlt
          obtain ⟨s0, s1⟩ := twS_bd hok j (by omega)
          obtain ⟨d0, d1⟩ := mul_bdA pa.x0 pa.x1 pb.y0 pb.y1
          obtain ⟨e0, e1⟩ := mul_bdA pa.y0 pa.y1 pb.x0 pb.x1
          obtain ⟨T, HT⟩ : ∃ T, Hid (twS X Y j = T) := ⟨_, (rfl : twS X Y j = _)⟩
          rw [HT.out] at s0 s1 ⊢
          have HS : Hid (twS X Y (j + 1) = T + (X j * Y (j + 1) - Y j * X (j + 1))) := (by show twS X Y j + stw X Y j = _; rw [HT.out]; rfl : twS X Y (j + 1) = _)
          obtain ⟨x0, hx0⟩ : ∃ x, X j = x := ⟨_, rfl⟩
          obtain ⟨y0, hy0⟩ : ∃ x, Y j = x := ⟨_, rfl⟩
          obtain ⟨x1, hx1⟩ : ∃ x, X (j + 1) = x := ⟨_, rfl⟩
          obtain ⟨y1, hy1⟩ : ∃ x, Y (j + 1) = x := ⟨_, rfl⟩
          rw [hx0, hy0, hx1, hy1] at HS
          rw [hx0] at cx; rw [hy0] at cy; rw [hx1] at cx'; rw [hy1] at cy'
          rw [hx0, hy1] at d0 d1; rw [hy0, hx1] at e0 e1
          have hlt' : (j : Int) + 1 < (n : Int) := by omega
          have hltj : (j : Int) < (n : Int) := by omega
          have hj0 : (0 : Int) ≤ (j : Int) := by omega
          have hj1 : (0 : Int) ≤ (j : Int) + 1 := by omega
          have htn : ((j : Int) + 1).toNat = j + 1 := by omega
          have hwj : IntKind.i64.wrap (j : Int) = j := by rw [IntKind.wrap_i64]; omega
          have hwj1 : IntKind.i64.wrap ((j : Int) + 1) = j + 1 := by rw [IntKind.wrap_i64]; omega
          have hR : ∀ w', Bel wr w' → w'.cell? ⟨b, off + j * 2, none⟩ = some (.int .i64 x0) ∧ w'.cell? ⟨b, off + j * 2 + 1, none⟩ = some (.int .i64 y0) ∧ w'.cell? ⟨b, off + (j + 1) * 2, none⟩ = some (.int .i64 x1) ∧ w'.cell? ⟨b, off + (j + 1) * 2 + 1, none⟩ = some (.int .i64 y1) :=
            fun w' h => ⟨bel_cell h h2 cx, bel_cell h h2 cy, bel_cell h h2 cx', bel_cell h h2 cy'⟩
          have g0 : Bel wr wr := Bel.refl _
          clear h3 h2 cx cy cx' cy' pa pb hx0 hy0 hx1 hy1 hok hP
          go_wp2
          go_region_held3 (fun w' => Bel wr w') (repeat (first | exact g0 | refine Bel.drew ?_ | refine bel_alloc ?_ _ | refine bel_set2 ?_ ?_ _ | refine bel_set3 ?_ ?_ _ | assumption | refine bel_then (by assumption) ?_))
            (fail)
          all_goals
            go_wp2
            go_roundw
            case rel => exact ⟨j + 1, by omega, by rw [HS.out], by go_num, bel_step hbel (by assumption)⟩
            case measure => simp [intOf]; omega
      · obtain rfl : j = n - 1 := by omega
        go_wp2
        go_ret
        exact ⟨rfl, hbel⟩
  · have hr : rowB n X Y = false := by simpa using hr
    have hd : twOf n X Y = 0 := by simp [twOf, hr]
    rw [hd]; clear hd
    go_enter Try.func37, Try.ntmps37
    go_wp2_with fail
    refine (rowOk_any _ _ _ _ _ _ hP hn).mono ?_
    rintro e w1 ⟨rfl, hb1⟩
    go_wp2
    go_ret
    exact ⟨rfl, hb1⟩
end Go.Proofs.Ytkpgcnfokohhiaa
