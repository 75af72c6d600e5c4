/-
  Contracts of Bounds' model, and of Bounds where there is nothing: for every row of at most 2 to the 20th points.
-/
import Derived.Test.YtkknbapcbcialaaBoundsC
namespace Go.Proofs.Ytkknbapcbcialaa
open Go.RowKit

/-- Bounds as both tell them. -/
def bq (n : Nat) (X Y : Nat → Int) : Nat → Int := if rowB n X Y && decide (0 < n) then (fun j => match j with | 0 => mn X (n - 1) | 1 => mn Y (n - 1) | 2 => mx X (n - 1) | _ => mx Y (n - 1)) else fun _ => 0
abbrev bqv (n : Nat) (X Y : Nat → Int) : Value := bx (bq n X Y 0) (bq n X Y 1) (bq n X Y 2) (bq n X Y 3)
theorem bq_yes {n : Nat} {X Y : Nat → Int} (h : rowB n X Y = true) (h0 : 0 < n) : bqv n X Y = bx (mn X (n - 1)) (mn Y (n - 1)) (mx X (n - 1)) (mx Y (n - 1)) := by simp [bqv, bq, h, h0]
theorem bq_no {n : Nat} {X Y : Nat → Int} (h : rowB n X Y = false ∨ n = 0) : bqv n X Y = bx 0 0 0 0 := by rcases h with h | h <;> simp [bqv, bq, h]

theorem bounds_any (a : Option Addr) (n c : Nat) (X Y : Nat → Int) (w : World) (hP : Pts w a n X Y) (hn : n ≤ 1048576) :
    Calls Try.prog 22 #[.slice a n c] w fun e w' => e = .returned (bqv n X Y) ∧ Bel w w' := by
  by_cases hr : rowB n X Y = true
  · by_cases hn0 : 0 < n
    · rw [bq_yes hr hn0]
      exact bounds_ok _ _ _ X Y _ hP hn hr hn0
    · have e0 : n = 0 := by omega
      subst e0
      rw [bq_no (.inr rfl)]
      go_enter Try.func22, Try.ntmps22
      go_wp2_with fail
      refine (rowOk_any _ _ _ X Y _ (hP.bel (bel_alloc (Bel.refl _) _)) hn).mono ?_
      rintro e w1 ⟨rfl, hb1⟩
      obtain ⟨rl, z0, z1, z2, z3, rf⟩ := (Four.new w 0 0 0 0 35).bel hb1
      have HX : Hid (Four _ w.heap.size 0 0 0 0) := (((((Four.new w 0 0 0 0 35).bel hb1).set0 0).set1 0).set2 0).set3 0
      have q0 := rf 0
      have q1 := rf 1
      have q2 := rf 2
      have q3 := rf 3
      clear rf
      go_wp2
      obtain ⟨_, y0, y1, y2, y3, _⟩ := HX.out
      exact bodyPost_ret (v := bx 0 0 0 0) (by simp [results, Try.results22, go_sem, y0, y1, y2, y3]) rfl
        ⟨rfl, bel_set (bel_set (bel_set (bel_set (bel_step (bel_alloc (Bel.refl _) _) hb1) (Nat.le_refl _) _) (Nat.le_refl _) _) (Nat.le_refl _) _) (Nat.le_refl _) _⟩
  · have hr : rowB n X Y = false := by simpa using hr
    rw [bq_no (.inl hr)]
    go_enter Try.func22, Try.ntmps22
    go_wp2_with fail
    refine (rowOk_any _ _ _ X Y _ (hP.bel (bel_alloc (Bel.refl _) _)) hn).mono ?_
    rintro e w1 ⟨rfl, hb1⟩
    obtain ⟨rl, z0, z1, z2, z3, rf⟩ := (Four.new w 0 0 0 0 35).bel hb1
    have HX : Hid (Four _ w.heap.size 0 0 0 0) := (((((Four.new w 0 0 0 0 35).bel hb1).set0 0).set1 0).set2 0).set3 0
    have q0 := rf 0
    have q1 := rf 1
    have q2 := rf 2
    have q3 := rf 3
    clear rf
    go_wp2
    obtain ⟨_, y0, y1, y2, y3, _⟩ := HX.out
    exact bodyPost_ret (v := bx 0 0 0 0) (by simp [results, Try.results22, go_sem, y0, y1, y2, y3]) rfl
      ⟨rfl, bel_set (bel_set (bel_set (bel_set (bel_step (bel_alloc (Bel.refl _) _) hb1) (Nat.le_refl _) _) (Nat.le_refl _) _) (Nat.le_refl _) _) (Nat.le_refl _) _⟩

end Go.Proofs.Ytkknbapcbcialaa
