/-
  How a law marks a row of points and looks whether the marks were held: contracts. And Simplify in the model, with its guards.
-/
import Derived.Test.YtoeaplcijdlhnaaSimpT
namespace Go.Proofs.Ytoeaplcijdlhnaa
open Go.RowKit

/-- The first k points of the block are marked. -/
def Mk (w : World) (B k : Nat) : Prop := ∀ i, i < k → w.cell? ⟨B, i * 2, none⟩ = some (.int .i64 (1 + 2 * (i : Int))) ∧ w.cell? ⟨B, i * 2 + 1, none⟩ = some (.int .i64 (1 + 2 * (i : Int) + 1))
theorem Mk.bel {w w' : World} {B k : Nat} (h : Mk w B k) (hB : B < w.heap.size) (hb : Bel w w') : Mk w' B k := fun i hi => ⟨bel_cell hb hB (h i hi).1, bel_cell hb hB (h i hi).2⟩
theorem Mk.put {w : World} {B k : Nat} (h : Mk w B k) {m : Nat} (r : Room w B m) (hk : k * 2 + 1 < m) :
    Mk ((w.setCell ⟨B, k * 2, none⟩ (.int .i64 (1 + 2 * (k : Int)))).setCell ⟨B, k * 2 + 1, none⟩ (.int .i64 (1 + 2 * (k : Int) + 1))) B (k + 1) := by
  intro i hi
  obtain ⟨z0, e0⟩ := r.there (k * 2) (by omega)
  obtain ⟨z1, e1⟩ := (r.set (k * 2) (1 + 2 * (k : Int))).there (k * 2 + 1) hk
  by_cases e : i = k
  · subst e
    exact ⟨by rw [setc_other (by omega), setc_same e0], setc_same e1⟩
  · have hi' : i < k := by omega
    refine ⟨?_, ?_⟩
    · rw [setc_other (by omega), setc_other (by omega)]; exact (h i hi').1
    · rw [setc_other (by omega), setc_other (by omega)]; exact (h i hi').2

set_option maxHeartbeats 1000000 in
theorem mark_any (B n c : Nat) (w0 w : World) (hb : Bel w0 w) (hB : w0.heap.size ≤ B) (r : Room w B (n * 2)) (hn : n ≤ 1048576) :
    Calls Try.prog 33 #[.slice (some ⟨B, 0, none⟩) n c, .int .i64 1] w fun e w' => e = .returned (.int .i64 (1 + 2 * (n : Int))) ∧ But w0 w B (n * 2) w' ∧ Mk w' B n := by
  have g0 := But.start hb hB r
  go_enter Try.func33, Try.ntmps33
  go_wp2
  go_loopw [1, 5] (fun t i wr => ∃ k : Nat, k ≤ n ∧ t = .int .i64 (1 + 2 * (k : Int)) ∧ i = .int .i64 k ∧ But w0 w B (n * 2) wr ∧ Mk wr B k) (fun _ i _ => n - (intOf i).toNat)
  case atStart => exact ⟨0, Nat.zero_le _, rfl, rfl, g0, fun i hi => absurd hi (Nat.not_lt_zero _)⟩
  case round =>
    clear g0
    obtain ⟨k, hk, rfl, rfl, hBt, hM⟩ := hrel
    by_cases hlt : k < n
    · obtain ⟨z0, e0⟩ := hBt.room.there (k * 2) (by omega)
      obtain ⟨z1, e1⟩ := hBt.room.there (k * 2 + 1) (by omega)
      have q0 := hBt.room.fr (k * 2)
      have q1 := hBt.room.fr (k * 2 + 1)
      have HM := hM.put hBt.room (by omega)
      have HB := (hBt.set (k * 2) (1 + 2 * (k : Int))).set (k * 2 + 1) (1 + 2 * (k : Int) + 1)
      have HM : Hid (Mk _ B (k + 1)) := HM
      have HB : Hid (But w0 w B (n * 2) _) := HB
      have hlt' : (k : Int) < (n : Int) := by omega
      clear hBt hM
      go_wp2
      go_roundw
      case rel => exact ⟨k + 1, by omega, by go_num, by go_num, HB.out, HM.out⟩
      case measure => simp [intOf]; omega
    · obtain rfl : k = n := by omega
      go_wp2
      go_ret
      exact ⟨rfl, hBt, hM⟩

theorem mark_zero (a : Option Addr) (c : Nat) (w : World) :
    Calls Try.prog 33 #[.slice a 0 c, .int .i64 1] w fun e w' => e = .returned (.int .i64 1) ∧ w' = w := by
  go_enter Try.func33, Try.ntmps33
  go_wp2
  go_loopw [1, 5] (fun t i wr => t = .int .i64 1 ∧ i = .int .i64 0 ∧ wr = w) (fun _ _ _ => 0)
  case atStart => exact ⟨rfl, rfl, rfl⟩
  case round =>
    obtain ⟨rfl, rfl, rfl⟩ := hrel
    go_wp2
    go_ret
    exact ⟨rfl, rfl⟩

set_option maxHeartbeats 1000000 in
theorem held_any (B n c : Nat) (w : World) (hM : Mk w B n) (hn : n ≤ 1048576) :
    Calls Try.prog 34 #[.slice (some ⟨B, 0, none⟩) n c, .int .i64 1] w fun e w' => e = .returned (.int .i64 (1 + 2 * (n : Int))) ∧ w' = w := by
  have HM : Hid (Mk w B n) := hM
  clear hM
  go_enter Try.func34, Try.ntmps34
  go_wp2
  go_loopw [1, 5] (fun t i wr => ∃ k : Nat, k ≤ n ∧ t = .int .i64 (1 + 2 * (k : Int)) ∧ i = .int .i64 k ∧ wr = w) (fun _ i _ => n - (intOf i).toNat)
  case atStart => exact ⟨0, Nat.zero_le _, rfl, rfl, rfl⟩
  case round =>
    obtain ⟨k, hk, rfl, rfl, rfl⟩ := hrel
    by_cases hlt : k < n
    · obtain ⟨e0, e1⟩ := HM.out k hlt
      have hlt' : (k : Int) < (n : Int) := by omega
      go_wp2
      go_roundw
      case rel => exact ⟨k + 1, by omega, by go_num, by go_num, trivial⟩
      case measure => simp [intOf]; omega
    · obtain rfl : k = n := by omega
      go_wp2
      go_ret
      exact ⟨rfl, rfl⟩

theorem held_zero (a : Option Addr) (c : Nat) (w : World) :
    Calls Try.prog 34 #[.slice a 0 c, .int .i64 1] w fun e w' => e = .returned (.int .i64 1) ∧ w' = w := by
  go_enter Try.func34, Try.ntmps34
  go_wp2
  go_loopw [1, 5] (fun t i wr => t = .int .i64 1 ∧ i = .int .i64 0 ∧ wr = w) (fun _ _ _ => 0)
  case atStart => exact ⟨rfl, rfl, rfl⟩
  case round =>
    obtain ⟨rfl, rfl, rfl⟩ := hrel
    go_wp2
    go_ret
    exact ⟨rfl, rfl⟩

set_option maxHeartbeats 1000000 in
theorem specSimplify_any (b off n c : Nat) (X Y : Nat → Int) (s : Int) (w : World) (hP : Pts w (some ⟨b, off, none⟩) n X Y) (hc : n ≤ c) (hn : n ≤ 1048576) :
    Calls Try.prog 31 #[.slice (some ⟨b, off, none⟩) n c, .int .i64 s] w fun e w' => ∃ v', e = .returned v' ∧ Own w.heap.size w' v' (sq s n X Y) ∧ Bel w w' := by
  by_cases hr : rowB n X Y = true
  · by_cases s0 : 0 ≤ s
    · obtain ⟨hn', hok⟩ := rowB_out hr
      have hs0 : ¬ s < 0 := by omega
      rw [sq_yes hr s0]
      go_enter Try.func31, Try.ntmps31
      go_wp2_with fail
      refine (specRowOk_any _ _ _ X Y _ hP hn).mono ?_
      rintro e w1 ⟨rfl, hb1⟩
      go_wp2_with fail
      refine (l1Simplify_any s0 n n (Nat.le_refl _) b off c X Y _ (hP.bel hb1) hc hn' hok).mono ?_
      rintro e w2 ⟨v2, rfl, hown2, hb2⟩
      have hown2 := Own.base hown2 hb1.out.size
      obtain ⟨a2, c2, rfl⟩ := hown2.shape
      generalize hq : sl s n X Y n = qs at hown2
      have HQ : Hid (sl s n X Y n = qs) := hq
      have HO : Hid (Own w.heap.size w2 (.slice a2 qs.length c2) qs) := hown2
      clear hq hown2
      go_wp2
      go_ret
      exact ⟨_, rfl, by rw [HQ.out]; exact HO.out, bel_step hb1 hb2⟩
    · have s0' : s < 0 := by omega
      rw [sq_no (.inr s0')]
      go_enter Try.func31, Try.ntmps31
      go_wp2_with fail
      refine (specRowOk_any _ _ _ X Y _ hP hn).mono ?_
      rintro e w1 ⟨rfl, hb1⟩
      go_wp2
      go_ret
      exact ⟨_, rfl, World.ownsRow_lit w1 #[] 0 hb1.out.size (Nat.zero_le _) rfl, bel_alloc hb1 _⟩
  · have hr : rowB n X Y = false := by simpa using hr
    rw [sq_no (.inl hr)]
    go_enter Try.func31, Try.ntmps31
    go_wp2_with fail
    refine (specRowOk_any _ _ _ X Y _ hP hn).mono ?_
    rintro e w1 ⟨rfl, hb1⟩
    go_wp2
    go_ret
    exact ⟨_, rfl, World.ownsRow_lit w1 #[] 0 hb1.out.size (Nat.zero_le _) rfl, bel_alloc hb1 _⟩
end Go.Proofs.Ytoeaplcijdlhnaa
