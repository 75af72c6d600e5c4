/-
  The farthest point of a row from the stretch between its ends: the program's contract.
-/
import Derived.Test.YtkknbapcbcialaaSimpM
namespace Go.Proofs.Ytkknbapcbcialaa
open Go.RowKit

theorem dI_bd {X Y : Nat → Int} {last i : Nat} (a : POk (X 0) (Y 0)) (b : POk (X last) (Y last)) (c : POk (X i) (Y i)) : 0 ≤ dI X Y last i ∧ dI X Y last i ≤ 28284272 := dOf_bd c (foot_ok a b)
theorem gD_bd {s : Int} {X Y : Nat → Int} {last : Nat} (a : POk (X 0) (Y 0)) (b : POk (X last) (Y last)) : ∀ k, (∀ i, i ≤ k → POk (X i) (Y i)) → s ≤ gD s X Y last k ∧ (gD s X Y last k = s ∨ gD s X Y last k ≤ 28284272)
  | 0, _ => ⟨Int.le_refl _, .inl rfl⟩
  | k + 1, h => by
    have h1 := gD_bd (s := s) a b k (fun i hi => h i (by omega))
    have h2 := dI_bd a b (h (k + 1) (Nat.le_refl _))
    simp only [gD]
    split <;> omega

set_option maxRecDepth 100000 in
set_option maxHeartbeats 4000000 in
theorem farthest_any (a : Option Addr) (n c : Nat) (X Y : Nat → Int) (w : World) (hP : Pts w a n X Y) (hn : n ≤ 2000) (hn2 : 2 ≤ n) (hok : ∀ i, i < n → POk (X i) (Y i)) :
    Calls Try.prog 68 #[.slice a n c] w fun e w' => e = .returned (.tuple #[.int .i64 (gA (-1) X Y (n - 1) (n - 2)), .int .i64 (gD (-1) X Y (n - 1) (n - 2))]) ∧ Bel w w' := by
  rcases hP with h | ⟨b, off, rfl, h2, h3⟩
  · omega
  have HP : Hid (∀ i, i < n → w.cell? ⟨b, off + i * 2, none⟩ = some (.int .i64 (X i)) ∧ w.cell? ⟨b, off + i * 2 + 1, none⟩ = some (.int .i64 (Y i))) := h3
  clear h3
  obtain ⟨m, rfl⟩ : ∃ m, n = m + 2 := ⟨n - 2, by omega⟩
  have em : m + 2 - 1 = m + 1 := by omega
  have em' : m + 2 - 2 = m := by omega
  rw [em, em']
  clear em em'
  have hlast : IntKind.i64.wrap ((m : Int) + 2 - 1) = (m : Int) + 1 := by rw [IntKind.wrap_i64]; omega
  have hlast2 : IntKind.i64.wrap ((m : Int) + 1) = (m : Int) + 1 := by rw [IntKind.wrap_i64]; omega
  go_enter Try.func68, Try.ntmps68
  go_wp2
  go_loopw [5, 6, 7] (fun t d i wr => ∃ k : Nat, k ≤ m ∧ t = .int .i64 (gA (-1) X Y (m + 1) k) ∧ d = .int .i64 (gD (-1) X Y (m + 1) k) ∧ i = .int .i64 ((k : Int) + 1) ∧ Bel w wr) (fun _ _ i _ => m + 1 - (intOf i).toNat)
  case atStart => exact ⟨0, by omega, rfl, rfl, rfl, Bel.refl _⟩
  case round =>
    obtain ⟨k, hk, rfl, rfl, rfl, hbel⟩ := hrel
    by_cases hlt : k < m
    · have pa := hok 0 (by omega)
      have pb := hok (m + 1) (by omega)
      have pc := hok (k + 1) (by omega)
      have pq : POk (footX (X 0) (Y 0) (X (m + 1)) (Y (m + 1)) (X (k + 1)) (Y (k + 1))) (footY (X 0) (Y 0) (X (m + 1)) (Y (m + 1)) (X (k + 1)) (Y (k + 1))) := foot_ok pa pb
      have hd : dOf (X (k + 1)) (Y (k + 1)) (footX (X 0) (Y 0) (X (m + 1)) (Y (m + 1)) (X (k + 1)) (Y (k + 1))) (footY (X 0) (Y 0) (X (m + 1)) (Y (m + 1)) (X (k + 1)) (Y (k + 1))) = dI X Y (m + 1) (k + 1) := rfl
      have a0 := (HP.out 0 (by omega)).1
      have a1 := (HP.out 0 (by omega)).2
      simp only [Nat.zero_mul, Nat.add_zero] at a0 a1
      have c0 := (HP.out (k + 1) (by omega)).1
      have c1 := (HP.out (k + 1) (by omega)).2
      have d0 := (HP.out (m + 1) (by omega)).1
      have d1 := (HP.out (m + 1) (by omega)).2
      have hR : ∀ w', Bel wr w' → w'.cell? ⟨b, off, none⟩ = some (.int .i64 (X 0)) ∧ w'.cell? ⟨b, off + 1, none⟩ = some (.int .i64 (Y 0)) ∧ w'.cell? ⟨b, off + (k + 1) * 2, none⟩ = some (.int .i64 (X (k + 1))) ∧ w'.cell? ⟨b, off + (k + 1) * 2 + 1, none⟩ = some (.int .i64 (Y (k + 1))) ∧ w'.cell? ⟨b, off + (m + 1) * 2, none⟩ = some (.int .i64 (X (m + 1))) ∧ w'.cell? ⟨b, off + (m + 1) * 2 + 1, none⟩ = some (.int .i64 (Y (m + 1))) :=
        fun w' h => ⟨bel_cell (bel_step hbel h) h2 a0, bel_cell (bel_step hbel h) h2 a1, bel_cell (bel_step hbel h) h2 c0, bel_cell (bel_step hbel h) h2 c1, bel_cell (bel_step hbel h) h2 d0, bel_cell (bel_step hbel h) h2 d1⟩
      have hk1 : (k : Int) + 1 < (m : Int) + 1 := by omega
      have hk2 : (k : Int) + 1 < (m : Int) + 2 := by omega
      have hm2 : (m : Int) + 1 < (m : Int) + 2 := by omega
      have hm0 : (0 : Int) < (m : Int) + 2 := by omega
      have hj1 : (0 : Int) ≤ (k : Int) + 1 := by omega
      have hj2 : (0 : Int) ≤ (m : Int) + 1 := by omega
      have htn : ((k : Int) + 1).toNat = k + 1 := by omega
      have htm : ((m : Int) + 1).toNat = m + 1 := by omega
      have g0 : Bel wr wr := Bel.refl _
      clear a0 a1 c0 c1 d0 d1
      go_wp2
      go_region_held3 (fun w' => Bel wr w') (with_reducible (repeat (first | exact g0 | refine Bel.drew ?_ | assumption | refine bel_then (by assumption) ?_)))
        (first
          | (go_at_call 69; refine (nearestOn_any _ _ _ _ _ _ _ pa pb pc).mono ?_; rintro e w' ⟨rfl, hbk⟩)
          | (go_at_call 21; refine (dist_ok _ _ _ _ _ pc pq).mono ?_; rintro e w' ⟨rfl, hbk⟩; rw [hd]))
      have hH : Bel wr w' := by with_reducible assumption
      by_cases hf : gD (-1) X Y (m + 1) k < dI X Y (m + 1) (k + 1)
      · have E1 : Hid (gA (-1) X Y (m + 1) (k + 1) = k + 1) := if_pos hf
        have E2 : Hid (gD (-1) X Y (m + 1) (k + 1) = dI X Y (m + 1) (k + 1)) := if_pos hf
        go_wp2
        go_roundw
        case rel => exact ⟨k + 1, by omega, by rw [E1.out]; go_num, by rw [E2.out], by go_num, bel_step hbel hH⟩
        case measure => simp [intOf]; omega
      · have E1 : Hid (gA (-1) X Y (m + 1) (k + 1) = gA (-1) X Y (m + 1) k) := if_neg hf
        have E2 : Hid (gD (-1) X Y (m + 1) (k + 1) = gD (-1) X Y (m + 1) k) := if_neg hf
        go_wp2
        go_roundw
        case rel => exact ⟨k + 1, by omega, by rw [E1.out], by rw [E2.out], by go_num, bel_step hbel hH⟩
        case measure => simp [intOf]; omega
    · obtain rfl : k = m := by omega
      go_wp2
      go_ret2
      exact ⟨rfl, hbel⟩
end Go.Proofs.Ytkknbapcbcialaa
