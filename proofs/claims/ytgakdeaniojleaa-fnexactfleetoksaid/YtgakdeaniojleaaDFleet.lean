/-
  Contracts of the laws' own functions on Fleet data: counted, copied, held against each other.
-/
import Derived.Test.YtgakdeaniojleaaMem
import Derived.Test.YtgakdeaniojleaaDTask
import Derived.Deep.LoopGhost
import Derived.OwnWalk
import Derived.Deep.RegionHeld3
namespace Go.Proofs.Ytgakdeaniojleaa
open Go.RowKit

set_option maxHeartbeats 1000000 in
theorem szFleet_any (x0 : Int) (x1 : Int) (x2 : Int) (x3 : Int) (a4 : Option Addr) (n4 c4 : Nat) (l4 : List TaskD) (bs4 : List Nat) (left : Int) (w : World) (t4 : TaskL w a4 l4 bs4) (e4 : l4.length = n4) (m4 : n4 ≤ 9223372036854775807) (h0 : 0 ≤ left) (h1 : left ≤ 1048576) :
    Calls Try.prog 5 #[.agg #[.int .i64 x0, .int .i64 x1, .int .i64 x2, .int .i64 x3, .slice a4 n4 c4], .int .i64 left] w fun e w' => e = .returned (.int .i64 (szR left (l4.length))) ∧ Bel w w' := by
  obtain ⟨r0, H0⟩ : ∃ r, Hid (szR left (l4.length) = r) := ⟨_, (rfl : szR left (l4.length) = _)⟩
  have b0 : r0 ≤ 1048576 := by rw [← H0.out]; exact (szR_bd h1).1
  by_cases p0 : 0 ≤ r0
  · have q0 : szR left (l4.length) = r0 := H0.out
    have Q0 : Hid (szR left (l4.length) = r0) := q0
    clear q0
    go_enter Try.func5, Try.ntmps5
    go_wp2_with (first | (go_at_call 15; refine (szTaskS_any _ _ _ l4 bs4 _ _ (t4.bel taskE (bel_alloc (Bel.refl _) _)) e4 m4 h0 h1).mono ?_; rintro e w0 ⟨rfl, hb0⟩; have B0 := bel_step (bel_alloc (Bel.refl w) _) hb0; obtain ⟨hc0, _, hz0⟩ := bcell hb0; rw [H0.out]))
    go_ret
    exact ⟨ret_num Q0.out.symm, by assumption⟩
  · have q0 : szR left (l4.length) = r0 := H0.out
    have Q : Hid (szR left (l4.length) = -1) := (by have := szR_bd (s := l4.length) h1; rw [q0] at this ⊢; omega : szR left (l4.length) = -1)
    clear q0
    go_enter Try.func5, Try.ntmps5
    go_wp2_with (first | (go_at_call 15; refine (szTaskS_any _ _ _ l4 bs4 _ _ (t4.bel taskE (bel_alloc (Bel.refl _) _)) e4 m4 h0 h1).mono ?_; rintro e w0 ⟨rfl, hb0⟩; have B0 := bel_step (bel_alloc (Bel.refl w) _) hb0; obtain ⟨hc0, _, hz0⟩ := bcell hb0; rw [H0.out]))
    go_ret
    exact ⟨ret_num Q.out.symm, by assumption⟩

set_option maxHeartbeats 1000000 in
theorem toFleet_any (x0 : Int) (x1 : Int) (x2 : Int) (x3 : Int) (a4 : Option Addr) (n4 c4 : Nat) (l4 : List TaskD) (bs4 : List Nat) (w : World) (t4 : TaskL w a4 l4 bs4) (e4 : l4.length = n4) (m4 : n4 ≤ 1048576) :
    Calls Try.prog 8 #[.agg #[.int .i64 x0, .int .i64 x1, .int .i64 x2, .int .i64 x3, .slice a4 n4 c4]] w fun e w' => ∃ B4 d4, e = .returned (.agg #[.int .i64 x0, .int .i64 x1, .int .i64 x2, .int .i64 x3, .slice (some ⟨B4, 0, none⟩) n4 n4]) ∧ TaskL w' (some ⟨B4, 0, none⟩) l4 d4 ∧ Fresh w w' (d4) ∧ Bel w w' := by
  have E4 : Hid (l4.length = n4) := e4
  clear e4
  go_enter Try.func8, Try.ntmps8
  have S0 : Bel w (((w.alloc (.cells #[.int .i64 x0, .int .i64 x1, .int .i64 x2, .int .i64 x3, .slice a4 n4 c4] 29)).alloc (.cells #[.int .i64 0, .int .i64 0, .int .i64 0, .int .i64 0, .slice none 0 0] 41)).alloc (.cells #[.int .i64 x0, .int .i64 x1, .int .i64 x2, .int .i64 x3, .slice none 0 0] 41)) := bel_alloc (bel_alloc (bel_alloc (Bel.refl _) _) _) _
  have X0 : Blk (((w.alloc (.cells #[.int .i64 x0, .int .i64 x1, .int .i64 x2, .int .i64 x3, .slice a4 n4 c4] 29)).alloc (.cells #[.int .i64 0, .int .i64 0, .int .i64 0, .int .i64 0, .slice none 0 0] 41)).alloc (.cells #[.int .i64 x0, .int .i64 x1, .int .i64 x2, .int .i64 x3, .slice none 0 0] 41)) (w.heap.size) [.int .i64 x0, .int .i64 x1, .int .i64 x2, .int .i64 x3, .slice a4 n4 c4] := (Blk.new w [.int .i64 x0, .int .i64 x1, .int .i64 x2, .int .i64 x3, .slice a4 n4 c4] 29).bel (bel_alloc (bel_alloc (Bel.refl _) _) _)
  have R0 : Blk (((w.alloc (.cells #[.int .i64 x0, .int .i64 x1, .int .i64 x2, .int .i64 x3, .slice a4 n4 c4] 29)).alloc (.cells #[.int .i64 0, .int .i64 0, .int .i64 0, .int .i64 0, .slice none 0 0] 41)).alloc (.cells #[.int .i64 x0, .int .i64 x1, .int .i64 x2, .int .i64 x3, .slice none 0 0] 41)) (w.heap.size + 1) [.int .i64 0, .int .i64 0, .int .i64 0, .int .i64 0, .slice none 0 0] := (Blk.new1 w _ [.int .i64 0, .int .i64 0, .int .i64 0, .int .i64 0, .slice none 0 0] 41).bel (bel_alloc (Bel.refl _) _)
  have O0 : Blk (((w.alloc (.cells #[.int .i64 x0, .int .i64 x1, .int .i64 x2, .int .i64 x3, .slice a4 n4 c4] 29)).alloc (.cells #[.int .i64 0, .int .i64 0, .int .i64 0, .int .i64 0, .slice none 0 0] 41)).alloc (.cells #[.int .i64 x0, .int .i64 x1, .int .i64 x2, .int .i64 x3, .slice none 0 0] 41)) (w.heap.size + 1 + 1) [.int .i64 x0, .int .i64 x1, .int .i64 x2, .int .i64 x3, .slice none 0 0] := Blk.new2 w _ _ [.int .i64 x0, .int .i64 x1, .int .i64 x2, .int .i64 x3, .slice none 0 0] 41
  have y0 : w.heap.size + 3 ≤ (((w.alloc (.cells #[.int .i64 x0, .int .i64 x1, .int .i64 x2, .int .i64 x3, .slice a4 n4 c4] 29)).alloc (.cells #[.int .i64 0, .int .i64 0, .int .i64 0, .int .i64 0, .slice none 0 0] 41)).alloc (.cells #[.int .i64 x0, .int .i64 x1, .int .i64 x2, .int .i64 x3, .slice none 0 0] 41)).heap.size := by simp
  go_wp2_with fail
  refine (toTaskS_any _ _ _ l4 bs4 _ (t4.bel taskE S0) E4.out m4).mono ?_
  rintro e w1 ⟨B4, d4, rfl, u4, f4, hb1⟩
  have V1 := bel_step S0 hb1
  have X1 := X0.bel hb1
  have R1 := R0.bel hb1
  have O1 := O0.bel hb1
  have z1 : w.heap.size + 3 ≤ w1.heap.size := Nat.le_trans y0 hb1.out.size
  have x10 : w1.cell? ⟨w.heap.size, 0, none⟩ = some (.int .i64 x0) := X1.cell 0 (by simp)
  have r10 : w1.cell? ⟨w.heap.size + 1, 0, none⟩ = some (.int .i64 0) := R1.cell 0 (by simp)
  have o10 : w1.cell? ⟨w.heap.size + 1 + 1, 0, none⟩ = some (.int .i64 x0) := O1.cell 0 (by simp)
  have x11 : w1.cell? ⟨w.heap.size, 1, none⟩ = some (.int .i64 x1) := X1.cell 1 (by simp)
  have r11 : w1.cell? ⟨w.heap.size + 1, 1, none⟩ = some (.int .i64 0) := R1.cell 1 (by simp)
  have o11 : w1.cell? ⟨w.heap.size + 1 + 1, 1, none⟩ = some (.int .i64 x1) := O1.cell 1 (by simp)
  have x12 : w1.cell? ⟨w.heap.size, 2, none⟩ = some (.int .i64 x2) := X1.cell 2 (by simp)
  have r12 : w1.cell? ⟨w.heap.size + 1, 2, none⟩ = some (.int .i64 0) := R1.cell 2 (by simp)
  have o12 : w1.cell? ⟨w.heap.size + 1 + 1, 2, none⟩ = some (.int .i64 x2) := O1.cell 2 (by simp)
  have x13 : w1.cell? ⟨w.heap.size, 3, none⟩ = some (.int .i64 x3) := X1.cell 3 (by simp)
  have r13 : w1.cell? ⟨w.heap.size + 1, 3, none⟩ = some (.int .i64 0) := R1.cell 3 (by simp)
  have o13 : w1.cell? ⟨w.heap.size + 1 + 1, 3, none⟩ = some (.int .i64 x3) := O1.cell 3 (by simp)
  have x14 : w1.cell? ⟨w.heap.size, 4, none⟩ = some (.slice a4 n4 c4) := X1.cell 4 (by simp)
  have r14 : w1.cell? ⟨w.heap.size + 1, 4, none⟩ = some (.slice none 0 0) := R1.cell 4 (by simp)
  have o14 : w1.cell? ⟨w.heap.size + 1 + 1, 4, none⟩ = some (.slice none 0 0) := O1.cell 4 (by simp)
  have g1 := X1.free
  have gr1 := R1.free
  have go1 := O1.free
  have c4 : Abv (w.heap.size + 3) w1 w1 := Abv.refl _ _
  have q4 := f4.abv y0 c4
  have F4 : Fresh w w1 d4 := q4.old (Nat.le_trans (Nat.le_add_right _ 3) y0)
  have FF := F4
  have HN : ∀ x ∈ d4, w.heap.size + 3 ≤ x := fun x hx => Nat.le_trans y0 (f4.new x hx).1
  have hA : ∀ W, Abv (w.heap.size + 3) w1 W → Bel w W → TaskL W (some ⟨B4, 0, none⟩) l4 d4 ∧ Fresh w W (d4) ∧ Bel w W := fun W h hb => ⟨u4.abv taskE f4 y0 (c4.trans h), FF.abv0 (fun x hx => HN x hx) h, hb⟩
  go_wp2
  refine bodyPost_ret (v := .agg #[.int .i64 x0, .int .i64 x1, .int .i64 x2, .int .i64 x3, .slice (some ⟨B4, 0, none⟩) n4 n4]) (by simp [results, Try.results8, go_sem, r10, r11, r12, r13, r14]) rfl ?_
  clear x10 r10 o10 x11 r11 o11 x12 r12 o12 x13 r13 o13 x14 r14 o14
  refine ⟨B4, d4, rfl, hA _ ?_ ?_⟩
  · with_reducible repeat (first | exact Abv.refl _ _ | refine Abv.set ?_ (by omega) _)
  · (with_reducible repeat (first | exact V1 | refine bel_set ?_ ?_ _)) <;> simp <;> omega

set_option maxHeartbeats 1000000 in
theorem eqFleet_same (x0 : Int) (x1 : Int) (x2 : Int) (x3 : Int) (a4 : Option Addr) (n4 c4 : Nat) (l4 : List TaskD) (bs4 : List Nat) (a4' : Option Addr) (c4' : Nat) (bs4' : List Nat) (w : World) (t4 : TaskL w a4 l4 bs4) (e4 : l4.length = n4) (t4' : TaskL w a4' l4 bs4') (m4 : n4 ≤ 1048576) :
    Calls Try.prog 11 #[.agg #[.int .i64 x0, .int .i64 x1, .int .i64 x2, .int .i64 x3, .slice a4 n4 c4], .agg #[.int .i64 x0, .int .i64 x1, .int .i64 x2, .int .i64 x3, .slice a4' n4 c4']] w fun e w' => e = .returned (.bool true) ∧ Bel w w' := by
  have S0 : Bel w ((w.alloc (.cells #[.int .i64 x0, .int .i64 x1, .int .i64 x2, .int .i64 x3, .slice a4 n4 c4] 41)).alloc (.cells #[.int .i64 x0, .int .i64 x1, .int .i64 x2, .int .i64 x3, .slice a4' n4 c4'] 41)) := bel_alloc (bel_alloc (Bel.refl _) _) _
  have X0 : Blk ((w.alloc (.cells #[.int .i64 x0, .int .i64 x1, .int .i64 x2, .int .i64 x3, .slice a4 n4 c4] 41)).alloc (.cells #[.int .i64 x0, .int .i64 x1, .int .i64 x2, .int .i64 x3, .slice a4' n4 c4'] 41)) w.heap.size [.int .i64 x0, .int .i64 x1, .int .i64 x2, .int .i64 x3, .slice a4 n4 c4] := (Blk.new w [.int .i64 x0, .int .i64 x1, .int .i64 x2, .int .i64 x3, .slice a4 n4 c4] 41).bel (bel_alloc (Bel.refl _) _)
  have Y0 : Blk ((w.alloc (.cells #[.int .i64 x0, .int .i64 x1, .int .i64 x2, .int .i64 x3, .slice a4 n4 c4] 41)).alloc (.cells #[.int .i64 x0, .int .i64 x1, .int .i64 x2, .int .i64 x3, .slice a4' n4 c4'] 41)) (w.heap.size + 1) [.int .i64 x0, .int .i64 x1, .int .i64 x2, .int .i64 x3, .slice a4' n4 c4'] := Blk.new1 w _ [.int .i64 x0, .int .i64 x1, .int .i64 x2, .int .i64 x3, .slice a4' n4 c4'] 41
  go_enter Try.func11, Try.ntmps11
  go_wp2_with fail
  refine (eqTaskS_same _ _ _ _ _ l4 bs4 bs4' _ (t4.bel taskE S0) (t4'.bel taskE S0) e4 m4).mono ?_
  rintro e w1 ⟨rfl, hb1⟩
  have S1 := bel_step S0 hb1
  go_wp2
  go_ret
  exact ⟨rfl, S1⟩

end Go.Proofs.Ytgakdeaniojleaa
