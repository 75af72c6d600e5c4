/-
  Contracts of Length, in the program and in its model: for every row of at most 2 to the 20th points.
-/
import Derived.Test.YtoeaplcijdlhnaaPtsC
namespace Go.Proofs.Ytoeaplcijdlhnaa
open Go.RowKit

/-- The length of the first k stretches. -/
def sumD (X Y : Nat → Int) : Nat → Int
  | 0 => 0
  | k + 1 => sumD X Y k + dOf (X k) (Y k) (X (k + 1)) (Y (k + 1))
theorem sumD_bd {n : Nat} {X Y : Nat → Int} (h : ∀ i, i < n → POk (X i) (Y i)) : ∀ k, k < n → 0 ≤ sumD X Y k ∧ sumD X Y k ≤ 28284272 * k
  | 0, _ => by simp [sumD]
  | k + 1, hk => by
    have h1 := sumD_bd h k (by omega)
    have h2 := dOf_bd (h k (by omega)) (h (k + 1) hk)
    simp only [sumD]
    omega
/-- Length as both tell it. -/
def lenOf (n : Nat) (X Y : Nat → Int) : Int := if rowB n X Y then sumD X Y (n - 1) else -1

theorem dist_ok (x0 y0 x1 y1 : Int) (w : World) (a : POk x0 y0) (b : POk x1 y1) :
    Calls Try.prog 18 #[pt x0 y0, pt x1 y1] w fun e w' => e = .returned (.int .i64 (dOf x0 y0 x1 y1)) ∧ Bel w w' := by
  have hd : distOf x0 y0 x1 y1 = dOf x0 y0 x1 y1 := by simp [distOf, pOk_iff.2 a, pOk_iff.2 b]
  rw [← hd]
  exact distance_any _ _ _ _ _

set_option maxHeartbeats 1000000 in
theorem l1Length_any (a : Option Addr) (n c : Nat) (X Y : Nat → Int) (w : World) (hP : Pts w a n X Y) (hn : n ≤ 2000) (hok : ∀ i, i < n → POk (X i) (Y i)) :
    Calls Try.prog 44 #[.slice a n c] w fun e w' => e = .returned (.int .i64 (sumD X Y (n - 1))) ∧ Bel w w' := by
  go_enter Try.func44, Try.ntmps44
  go_wp2
  go_loopw [3, 4] (fun t i wr => ∃ j : Nat, (j + 1 ≤ n ∨ j = 0) ∧ t = .int .i64 (sumD X Y j) ∧ i = .int .i64 ((j : Int) + 1) ∧ Bel w wr) (fun _ i _ => n - (intOf i).toNat)
  case atStart => exact ⟨0, by omega, rfl, rfl, Bel.refl _⟩
  case round =>
    obtain ⟨j, hk, rfl, rfl, hbel⟩ := hrel
    by_cases hlt : j + 1 < n
    · rcases hP.bel hbel with h | ⟨b, off, rfl, h2, h3⟩
      · omega
      · obtain ⟨cx, cy⟩ := h3 j (by omega)
        obtain ⟨cx', cy'⟩ := h3 (j + 1) hlt
        have pa := hok j (by omega)
        have pb := hok (j + 1) hlt
        have HS : Hid (sumD X Y (j + 1) = sumD X Y j + dOf (X j) (Y j) (X (j + 1)) (Y (j + 1))) := rfl
        obtain ⟨s0, s1⟩ := sumD_bd hok j (by omega)
        obtain ⟨d0, d1⟩ := dOf_bd pa pb
        have hR : ∀ w', Bel wr w' → w'.cell? ⟨b, off + j * 2, none⟩ = some (.int .i64 (X j)) ∧ w'.cell? ⟨b, off + j * 2 + 1, none⟩ = some (.int .i64 (Y j)) ∧ w'.cell? ⟨b, off + (j + 1) * 2, none⟩ = some (.int .i64 (X (j + 1))) ∧ w'.cell? ⟨b, off + (j + 1) * 2 + 1, none⟩ = some (.int .i64 (Y (j + 1))) :=
          fun w' h => ⟨bel_cell h h2 cx, bel_cell h h2 cy, bel_cell h h2 cx', bel_cell h h2 cy'⟩
        have hlt' : (j : Int) + 1 < (n : Int) := by omega
        have hltj : (j : Int) < (n : Int) := by omega
        have hj0 : (0 : Int) ≤ (j : Int) := by omega
        have hj1 : (0 : Int) ≤ (j : Int) + 1 := by omega
        have htn : ((j : Int) + 1).toNat = j + 1 := by omega
        have hwj : IntKind.i64.wrap (j : Int) = j := by rw [IntKind.wrap_i64]; omega
        have hwj1 : IntKind.i64.wrap ((j : Int) + 1) = j + 1 := by rw [IntKind.wrap_i64]; omega
        have hws : IntKind.i64.wrap (sumD X Y j + dOf (X j) (Y j) (X (j + 1)) (Y (j + 1))) = sumD X Y j + dOf (X j) (Y j) (X (j + 1)) (Y (j + 1)) := by rw [IntKind.wrap_i64]; omega
        have g0 : Bel wr wr := Bel.refl _
        clear h3 cx cy cx' cy' h2
        go_wp2
        go_region_held3 (fun w' => Bel wr w') (repeat (first | exact g0 | refine Bel.drew ?_ | assumption | refine bel_then (by assumption) ?_))
          (first
            | (go_at_call 40; refine (l1Distance_any _ _ _ _ _ pa pb).mono ?_; rintro e w' ⟨rfl, hbk⟩))
        have hH : Bel wr w' := by assumption
        go_wp2
        go_roundw
        case rel => exact ⟨j + 1, by omega, by rw [HS.out], by go_num, bel_step hbel hH⟩
        case measure => simp [intOf]; omega
    · obtain rfl : j = n - 1 := by omega
      go_wp2
      go_ret
      exact ⟨rfl, hbel⟩

theorem specLength_any (a : Option Addr) (n c : Nat) (X Y : Nat → Int) (w : World) (hP : Pts w a n X Y) (hn : n ≤ 1048576) :
    Calls Try.prog 20 #[.slice a n c] w fun e w' => e = .returned (.int .i64 (lenOf n X Y)) ∧ Bel w w' := by
  by_cases hr : rowB n X Y = true
  · have hd : lenOf n X Y = sumD X Y (n - 1) := by simp [lenOf, hr]
    rw [hd]; clear hd
    obtain ⟨hn', hok⟩ := rowB_out hr
    go_enter Try.func20, Try.ntmps20
    go_wp2_with fail
    refine (specRowOk_any _ _ _ _ _ _ hP hn).mono ?_
    rintro e w1 ⟨rfl, hb1⟩
    go_wp2_with fail
    refine (l1Length_any _ _ _ _ _ _ (hP.bel hb1) hn' hok).mono ?_
    rintro e w2 ⟨rfl, hb2⟩
    go_wp2
    go_ret
    exact ⟨rfl, bel_step hb1 hb2⟩
  · have hr : rowB n X Y = false := by simpa using hr
    have hd : lenOf n X Y = -1 := by simp [lenOf, hr]
    rw [hd]; clear hd
    go_enter Try.func20, Try.ntmps20
    go_wp2_with fail
    refine (specRowOk_any _ _ _ _ _ _ hP hn).mono ?_
    rintro e w1 ⟨rfl, hb1⟩
    go_wp2
    go_ret
    exact ⟨rfl, hb1⟩

set_option maxHeartbeats 1000000 in
theorem length_any (a : Option Addr) (n c : Nat) (X Y : Nat → Int) (w : World) (hP : Pts w a n X Y) (hn : n ≤ 1048576) :
    Calls Try.prog 22 #[.slice a n c] w fun e w' => e = .returned (.int .i64 (lenOf n X Y)) ∧ Bel w w' := by
  by_cases hr : rowB n X Y = true
  · have hd : lenOf n X Y = sumD X Y (n - 1) := by simp [lenOf, hr]
    rw [hd]; clear hd
    obtain ⟨hn', hok⟩ := rowB_out hr
    go_enter Try.func22, Try.ntmps22
    go_wp2_with fail
    refine (rowOk_any _ _ _ _ _ _ hP hn).mono ?_
    rintro e w1 ⟨rfl, hb1⟩
    go_wp2
    go_loopw [3, 4] (fun t i wr => ∃ j : Nat, (j + 1 ≤ n ∨ j = 0) ∧ t = .int .i64 (sumD X Y j) ∧ i = .int .i64 ((j : Int) + 1) ∧ Bel w wr) (fun _ i _ => n - (intOf i).toNat)
    case atStart => exact ⟨0, by omega, rfl, rfl, hb1⟩
    case round =>
      obtain ⟨j, hk, rfl, rfl, hbel⟩ := hrel
      by_cases hlt : j + 1 < n
      · rcases hP.bel hbel with h | ⟨b, off, rfl, h2, h3⟩
        · omega
        · obtain ⟨cx, cy⟩ := h3 j (by omega)
          obtain ⟨cx', cy'⟩ := h3 (j + 1) hlt
          have pa := hok j (by omega)
          have pb := hok (j + 1) hlt
          have HS : Hid (sumD X Y (j + 1) = sumD X Y j + dOf (X j) (Y j) (X (j + 1)) (Y (j + 1))) := rfl
          obtain ⟨s0, s1⟩ := sumD_bd hok j (by omega)
          obtain ⟨d0, d1⟩ := dOf_bd pa pb
          have hR : ∀ w', Bel wr w' → w'.cell? ⟨b, off + j * 2, none⟩ = some (.int .i64 (X j)) ∧ w'.cell? ⟨b, off + j * 2 + 1, none⟩ = some (.int .i64 (Y j)) ∧ w'.cell? ⟨b, off + (j + 1) * 2, none⟩ = some (.int .i64 (X (j + 1))) ∧ w'.cell? ⟨b, off + (j + 1) * 2 + 1, none⟩ = some (.int .i64 (Y (j + 1))) :=
            fun w' h => ⟨bel_cell h h2 cx, bel_cell h h2 cy, bel_cell h h2 cx', bel_cell h h2 cy'⟩
          have hlt' : (j : Int) + 1 < (n : Int) := by omega
          have hltj : (j : Int) < (n : Int) := by omega
          have hj0 : (0 : Int) ≤ (j : Int) := by omega
          have hj1 : (0 : Int) ≤ (j : Int) + 1 := by omega
          have htn : ((j : Int) + 1).toNat = j + 1 := by omega
          have hwj : IntKind.i64.wrap (j : Int) = j := by rw [IntKind.wrap_i64]; omega
          have hwj1 : IntKind.i64.wrap ((j : Int) + 1) = j + 1 := by rw [IntKind.wrap_i64]; omega
          have hws : IntKind.i64.wrap (sumD X Y j + dOf (X j) (Y j) (X (j + 1)) (Y (j + 1))) = sumD X Y j + dOf (X j) (Y j) (X (j + 1)) (Y (j + 1)) := by rw [IntKind.wrap_i64]; omega
          have g0 : Bel wr wr := Bel.refl _
          clear h3 cx cy cx' cy' h2
          go_wp2
          go_region_held3 (fun w' => Bel wr w') (repeat (first | exact g0 | refine Bel.drew ?_ | assumption | refine bel_then (by assumption) ?_))
            (first
              | (go_at_call 18; refine (dist_ok _ _ _ _ _ pa pb).mono ?_; rintro e w' ⟨rfl, hbk⟩))
          have hH : Bel wr w' := by assumption
          go_wp2
          go_roundw
          case rel => exact ⟨j + 1, by omega, by rw [HS.out], by go_num, bel_step hbel hH⟩
          case measure => simp [intOf]; omega
      · obtain rfl : j = n - 1 := by omega
        go_wp2
        go_ret
        exact ⟨rfl, hbel⟩
  · have hr : rowB n X Y = false := by simpa using hr
    have hd : lenOf n X Y = -1 := by simp [lenOf, hr]
    rw [hd]; clear hd
    go_enter Try.func22, Try.ntmps22
    go_wp2_with fail
    refine (rowOk_any _ _ _ _ _ _ hP hn).mono ?_
    rintro e w1 ⟨rfl, hb1⟩
    go_wp2
    go_ret
    exact ⟨rfl, hb1⟩
end Go.Proofs.Ytoeaplcijdlhnaa
