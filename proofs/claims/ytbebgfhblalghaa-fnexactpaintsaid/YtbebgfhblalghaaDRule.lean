/-
  Contracts of the laws' own functions on Rule data: counted, copied, held against each other.
-/
import Derived.Test.YtbebgfhblalghaaMem
import Derived.Test.YtbebgfhblalghaaDTest
import Derived.Deep.LoopGhost
import Derived.OwnWalk
import Derived.Deep.RegionHeld3
namespace Go.Proofs.Ytbebgfhblalghaa
open Go.RowKit

set_option maxHeartbeats 1000000 in
theorem szRule_any (x0 x1 : Int) (a2 : Option Addr) (n2 c2 : Nat) (l2 : List TestD) (bs2 : List Nat) (x3 : Bool) (x4 : ByteArray) (x5 x6 : Int) (left : Int) (w : World) (t2 : Tests w a2 l2 bs2) (e2 : l2.length = n2) (m2 : n2 ≤ 9223372036854775807) (m4 : x4.size ≤ maxLen) (h0 : 0 ≤ left) (h1 : left ≤ 1048576) :
    Calls Try.prog 42 #[.agg #[.int .i64 x0, .int .i64 x1, .slice a2 n2 c2, .bool x3, .string x4, .int .i64 x5, .int .i64 x6], .int .i64 left] w fun e w' => e = .returned (.int .i64 (szR left (testsSz l2 + x4.size))) ∧ Bel w w' := by
  unfold maxLen at m4
  obtain ⟨r0, H0⟩ : ∃ r, Hid (szR left (testsSz l2) = r) := ⟨_, (rfl : szR left (testsSz l2) = _)⟩
  have b0 : r0 ≤ 1048576 := by rw [← H0.out]; exact (szR_bd h1).1
  have X0 : Blk (w.alloc (.cells #[.int .i64 x0, .int .i64 x1, .slice a2 n2 c2, .bool x3, .string x4, .int .i64 x5, .int .i64 x6] 61)) w.heap.size [.int .i64 x0, .int .i64 x1, .slice a2 n2 c2, .bool x3, .string x4, .int .i64 x5, .int .i64 x6] := Blk.new w [.int .i64 x0, .int .i64 x1, .slice a2 n2 c2, .bool x3, .string x4, .int .i64 x5, .int .i64 x6] 61
  by_cases p0 : 0 ≤ r0
  · by_cases p1 : (x4.size : Int) ≤ r0
    · have Q : Hid (szR left (testsSz l2 + x4.size) = r0 - x4.size) := by
        rw [← szR_add (by rw [H0.out]; exact p0), H0.out, szR_pos p1]; exact rfl
      go_enter Try.func42, Try.ntmps42
      go_wp2_with fail
      refine (szTestS_any _ _ _ l2 bs2 _ _ (t2.bel testE (bel_alloc (Bel.refl _) _)) e2 m2 h0 h1).mono ?_
      rintro e w1 ⟨rfl, hb1⟩
      rw [H0.out]
      have c4 : w1.cell? ⟨w.heap.size, 4, none⟩ = some (.string x4) := (X0.bel hb1).cell 4 (by simp)
      have xl := (X0.bel hb1).lt
      have B1 := bel_step (bel_alloc (Bel.refl w) _) hb1
      clear X0 hb1
      go_wp2
      go_ret
      exact ⟨ret_num Q.out.symm, B1⟩
    · have Q : Hid (szR left (testsSz l2 + x4.size) = -1) := by
        rw [← szR_add (by rw [H0.out]; exact p0), H0.out, szR_neg p1]; exact rfl
      go_enter Try.func42, Try.ntmps42
      go_wp2_with fail
      refine (szTestS_any _ _ _ l2 bs2 _ _ (t2.bel testE (bel_alloc (Bel.refl _) _)) e2 m2 h0 h1).mono ?_
      rintro e w1 ⟨rfl, hb1⟩
      rw [H0.out]
      have c4 : w1.cell? ⟨w.heap.size, 4, none⟩ = some (.string x4) := (X0.bel hb1).cell 4 (by simp)
      have xl := (X0.bel hb1).lt
      have B1 := bel_step (bel_alloc (Bel.refl w) _) hb1
      clear X0 hb1
      go_wp2
      go_ret
      exact ⟨ret_num Q.out.symm, B1⟩
  · have Q : Hid (szR left (testsSz l2 + x4.size) = -1) := szR_out (by rw [H0.out]; omega)
    go_enter Try.func42, Try.ntmps42
    go_wp2_with fail
    refine (szTestS_any _ _ _ l2 bs2 _ _ (t2.bel testE (bel_alloc (Bel.refl _) _)) e2 m2 h0 h1).mono ?_
    rintro e w1 ⟨rfl, hb1⟩
    rw [H0.out]
    have B1 := bel_step (bel_alloc (Bel.refl w) _) hb1
    clear X0 hb1
    go_wp2
    go_ret
    exact ⟨ret_num Q.out.symm, B1⟩

set_option maxHeartbeats 1000000 in
theorem toRule_any (x0 x1 : Int) (a2 : Option Addr) (n2 c2 : Nat) (l2 : List TestD) (bs2 : List Nat) (x3 : Bool) (x4 : ByteArray) (x5 x6 : Int) (w : World) (t2 : Tests w a2 l2 bs2) (e2 : l2.length = n2) (m2 : n2 ≤ 1048576) :
    Calls Try.prog 45 #[.agg #[.int .i64 x0, .int .i64 x1, .slice a2 n2 c2, .bool x3, .string x4, .int .i64 x5, .int .i64 x6]] w fun e w' => ∃ B2 d2, e = .returned (.agg #[.int .i64 x0, .int .i64 x1, .slice (some ⟨B2, 0, none⟩) n2 n2, .bool x3, .string x4, .int .i64 x5, .int .i64 x6]) ∧ Tests w' (some ⟨B2, 0, none⟩) l2 d2 ∧ Fresh w w' d2 ∧ Bel w w' := by
  have E2 : Hid (l2.length = n2) := e2
  clear e2
  go_enter Try.func45, Try.ntmps45
  have S0 : Bel w (((w.alloc (.cells #[.int .i64 x0, .int .i64 x1, .slice a2 n2 c2, .bool x3, .string x4, .int .i64 x5, .int .i64 x6] 61)).alloc (.cells #[.int .i64 0, .int .i64 0, .slice none 0 0, .bool false, .string ⟨#[]⟩, .int .i64 0, .int .i64 0] 68)).alloc (.cells #[.int .i64 x0, .int .i64 x1, .slice none 0 0, .bool false, .string ⟨#[]⟩, .int .i64 0, .int .i64 0] 68)) := bel_alloc (bel_alloc (bel_alloc (Bel.refl _) _) _) _
  have X0 : Blk (((w.alloc (.cells #[.int .i64 x0, .int .i64 x1, .slice a2 n2 c2, .bool x3, .string x4, .int .i64 x5, .int .i64 x6] 61)).alloc (.cells #[.int .i64 0, .int .i64 0, .slice none 0 0, .bool false, .string ⟨#[]⟩, .int .i64 0, .int .i64 0] 68)).alloc (.cells #[.int .i64 x0, .int .i64 x1, .slice none 0 0, .bool false, .string ⟨#[]⟩, .int .i64 0, .int .i64 0] 68)) (w.heap.size) [.int .i64 x0, .int .i64 x1, .slice a2 n2 c2, .bool x3, .string x4, .int .i64 x5, .int .i64 x6] := (Blk.new w [.int .i64 x0, .int .i64 x1, .slice a2 n2 c2, .bool x3, .string x4, .int .i64 x5, .int .i64 x6] 61).bel (bel_alloc (bel_alloc (Bel.refl _) _) _)
  have R0 : Blk (((w.alloc (.cells #[.int .i64 x0, .int .i64 x1, .slice a2 n2 c2, .bool x3, .string x4, .int .i64 x5, .int .i64 x6] 61)).alloc (.cells #[.int .i64 0, .int .i64 0, .slice none 0 0, .bool false, .string ⟨#[]⟩, .int .i64 0, .int .i64 0] 68)).alloc (.cells #[.int .i64 x0, .int .i64 x1, .slice none 0 0, .bool false, .string ⟨#[]⟩, .int .i64 0, .int .i64 0] 68)) (w.heap.size + 1) [.int .i64 0, .int .i64 0, .slice none 0 0, .bool false, .string ⟨#[]⟩, .int .i64 0, .int .i64 0] := (Blk.new1 w _ [.int .i64 0, .int .i64 0, .slice none 0 0, .bool false, .string ⟨#[]⟩, .int .i64 0, .int .i64 0] 68).bel (bel_alloc (Bel.refl _) _)
  have O0 : Blk (((w.alloc (.cells #[.int .i64 x0, .int .i64 x1, .slice a2 n2 c2, .bool x3, .string x4, .int .i64 x5, .int .i64 x6] 61)).alloc (.cells #[.int .i64 0, .int .i64 0, .slice none 0 0, .bool false, .string ⟨#[]⟩, .int .i64 0, .int .i64 0] 68)).alloc (.cells #[.int .i64 x0, .int .i64 x1, .slice none 0 0, .bool false, .string ⟨#[]⟩, .int .i64 0, .int .i64 0] 68)) (w.heap.size + 1 + 1) [.int .i64 x0, .int .i64 x1, .slice none 0 0, .bool false, .string ⟨#[]⟩, .int .i64 0, .int .i64 0] := Blk.new2 w _ _ [.int .i64 x0, .int .i64 x1, .slice none 0 0, .bool false, .string ⟨#[]⟩, .int .i64 0, .int .i64 0] 68
  have y0 : w.heap.size + 3 ≤ (((w.alloc (.cells #[.int .i64 x0, .int .i64 x1, .slice a2 n2 c2, .bool x3, .string x4, .int .i64 x5, .int .i64 x6] 61)).alloc (.cells #[.int .i64 0, .int .i64 0, .slice none 0 0, .bool false, .string ⟨#[]⟩, .int .i64 0, .int .i64 0] 68)).alloc (.cells #[.int .i64 x0, .int .i64 x1, .slice none 0 0, .bool false, .string ⟨#[]⟩, .int .i64 0, .int .i64 0] 68)).heap.size := by simp
  go_wp2_with fail
  refine (toTestS_any _ _ _ l2 bs2 _ (t2.bel testE S0) E2.out m2).mono ?_
  rintro e w1 ⟨B2, d2, rfl, u2, f2, hb1⟩
  have V1 := bel_step S0 hb1
  have X1 := X0.bel hb1
  have R1 := R0.bel hb1
  have O1 := O0.bel hb1
  have z1 : w.heap.size + 3 ≤ w1.heap.size := Nat.le_trans y0 hb1.out.size
  have x10 : w1.cell? ⟨w.heap.size, 0, none⟩ = some (.int .i64 x0) := X1.cell 0 (by simp)
  have r10 : w1.cell? ⟨w.heap.size + 1, 0, none⟩ = some (.int .i64 0) := R1.cell 0 (by simp)
  have o10 : w1.cell? ⟨w.heap.size + 1 + 1, 0, none⟩ = some (.int .i64 x0) := O1.cell 0 (by simp)
  have x11 : w1.cell? ⟨w.heap.size, 1, none⟩ = some (.int .i64 x1) := X1.cell 1 (by simp)
  have r11 : w1.cell? ⟨w.heap.size + 1, 1, none⟩ = some (.int .i64 0) := R1.cell 1 (by simp)
  have o11 : w1.cell? ⟨w.heap.size + 1 + 1, 1, none⟩ = some (.int .i64 x1) := O1.cell 1 (by simp)
  have x12 : w1.cell? ⟨w.heap.size, 2, none⟩ = some (.slice a2 n2 c2) := X1.cell 2 (by simp)
  have r12 : w1.cell? ⟨w.heap.size + 1, 2, none⟩ = some (.slice none 0 0) := R1.cell 2 (by simp)
  have o12 : w1.cell? ⟨w.heap.size + 1 + 1, 2, none⟩ = some (.slice none 0 0) := O1.cell 2 (by simp)
  have x13 : w1.cell? ⟨w.heap.size, 3, none⟩ = some (.bool x3) := X1.cell 3 (by simp)
  have r13 : w1.cell? ⟨w.heap.size + 1, 3, none⟩ = some (.bool false) := R1.cell 3 (by simp)
  have o13 : w1.cell? ⟨w.heap.size + 1 + 1, 3, none⟩ = some (.bool false) := O1.cell 3 (by simp)
  have x14 : w1.cell? ⟨w.heap.size, 4, none⟩ = some (.string x4) := X1.cell 4 (by simp)
  have r14 : w1.cell? ⟨w.heap.size + 1, 4, none⟩ = some (.string ⟨#[]⟩) := R1.cell 4 (by simp)
  have o14 : w1.cell? ⟨w.heap.size + 1 + 1, 4, none⟩ = some (.string ⟨#[]⟩) := O1.cell 4 (by simp)
  have x15 : w1.cell? ⟨w.heap.size, 5, none⟩ = some (.int .i64 x5) := X1.cell 5 (by simp)
  have r15 : w1.cell? ⟨w.heap.size + 1, 5, none⟩ = some (.int .i64 0) := R1.cell 5 (by simp)
  have o15 : w1.cell? ⟨w.heap.size + 1 + 1, 5, none⟩ = some (.int .i64 0) := O1.cell 5 (by simp)
  have x16 : w1.cell? ⟨w.heap.size, 6, none⟩ = some (.int .i64 x6) := X1.cell 6 (by simp)
  have r16 : w1.cell? ⟨w.heap.size + 1, 6, none⟩ = some (.int .i64 0) := R1.cell 6 (by simp)
  have o16 : w1.cell? ⟨w.heap.size + 1 + 1, 6, none⟩ = some (.int .i64 0) := O1.cell 6 (by simp)
  have g1 := X1.free
  have gr1 := R1.free
  have go1 := O1.free
  have q2 := f2.abv y0 (Abv.refl (w.heap.size + 3) w1)
  have FF : Fresh w w1 d2 := q2.old (Nat.le_trans (Nat.le_add_right _ 3) y0)
  have HN : ∀ x ∈ d2, w.heap.size + 3 ≤ x := fun x hx => Nat.le_trans y0 (f2.new x hx).1
  have hA : ∀ W, Abv (w.heap.size + 3) w1 W → Bel w W → Tests W (some ⟨B2, 0, none⟩) l2 d2 ∧ Fresh w W d2 ∧ Bel w W := fun W h hb => ⟨u2.abv testE f2 y0 h, FF.abv0 (fun x hx => HN x hx) h, hb⟩
  go_wp2
  refine bodyPost_ret (v := .agg #[.int .i64 x0, .int .i64 x1, .slice (some ⟨B2, 0, none⟩) n2 n2, .bool x3, .string x4, .int .i64 x5, .int .i64 x6]) (by simp [results, Try.results45, go_sem, r10, r11, r12, r13, r14, r15, r16]) rfl ?_
  clear x10 r10 o10 x11 r11 o11 x12 r12 o12 x13 r13 o13 x14 r14 o14 x15 r15 o15 x16 r16 o16
  refine ⟨B2, d2, rfl, hA _ ?_ ?_⟩
  · with_reducible repeat (first | exact Abv.refl _ _ | refine Abv.set ?_ (by omega) _)
  · (with_reducible repeat (first | exact V1 | refine bel_set ?_ ?_ _)) <;> simp <;> omega

set_option maxHeartbeats 1000000 in
theorem eqRule_same (x0 x1 : Int) (a2 : Option Addr) (n2 c2 : Nat) (l2 : List TestD) (bs2 : List Nat) (x3 : Bool) (x4 : ByteArray) (x5 x6 : Int) (a2' : Option Addr) (c2' : Nat) (bs2' : List Nat) (w : World) (t2 : Tests w a2 l2 bs2) (e2 : l2.length = n2) (t2' : Tests w a2' l2 bs2') (m2 : n2 ≤ 1048576) :
    Calls Try.prog 48 #[.agg #[.int .i64 x0, .int .i64 x1, .slice a2 n2 c2, .bool x3, .string x4, .int .i64 x5, .int .i64 x6], .agg #[.int .i64 x0, .int .i64 x1, .slice a2' n2 c2', .bool x3, .string x4, .int .i64 x5, .int .i64 x6]] w fun e w' => e = .returned (.bool true) ∧ Bel w w' := by
  have S0 : Bel w ((w.alloc (.cells #[.int .i64 x0, .int .i64 x1, .slice a2 n2 c2, .bool x3, .string x4, .int .i64 x5, .int .i64 x6] 68)).alloc (.cells #[.int .i64 x0, .int .i64 x1, .slice a2' n2 c2', .bool x3, .string x4, .int .i64 x5, .int .i64 x6] 68)) := bel_alloc (bel_alloc (Bel.refl _) _) _
  have X0 : Blk ((w.alloc (.cells #[.int .i64 x0, .int .i64 x1, .slice a2 n2 c2, .bool x3, .string x4, .int .i64 x5, .int .i64 x6] 68)).alloc (.cells #[.int .i64 x0, .int .i64 x1, .slice a2' n2 c2', .bool x3, .string x4, .int .i64 x5, .int .i64 x6] 68)) w.heap.size [.int .i64 x0, .int .i64 x1, .slice a2 n2 c2, .bool x3, .string x4, .int .i64 x5, .int .i64 x6] := (Blk.new w [.int .i64 x0, .int .i64 x1, .slice a2 n2 c2, .bool x3, .string x4, .int .i64 x5, .int .i64 x6] 68).bel (bel_alloc (Bel.refl _) _)
  have Y0 : Blk ((w.alloc (.cells #[.int .i64 x0, .int .i64 x1, .slice a2 n2 c2, .bool x3, .string x4, .int .i64 x5, .int .i64 x6] 68)).alloc (.cells #[.int .i64 x0, .int .i64 x1, .slice a2' n2 c2', .bool x3, .string x4, .int .i64 x5, .int .i64 x6] 68)) (w.heap.size + 1) [.int .i64 x0, .int .i64 x1, .slice a2' n2 c2', .bool x3, .string x4, .int .i64 x5, .int .i64 x6] := Blk.new1 w _ [.int .i64 x0, .int .i64 x1, .slice a2' n2 c2', .bool x3, .string x4, .int .i64 x5, .int .i64 x6] 68
  go_enter Try.func48, Try.ntmps48
  go_wp2_with fail
  refine (eqTestS_same _ _ _ _ _ l2 bs2 bs2' _ (t2.bel testE S0) (t2'.bel testE S0) e2 m2).mono ?_
  rintro e w1 ⟨rfl, hb1⟩
  have S1 := bel_step S0 hb1
  have X1 := X0.bel hb1
  have Y1 := Y0.bel hb1
  have x10 : w1.cell? ⟨w.heap.size, 0, none⟩ = some (.int .i64 x0) := X1.cell 0 (by simp)
  have y10 : w1.cell? ⟨w.heap.size + 1, 0, none⟩ = some (.int .i64 x0) := Y1.cell 0 (by simp)
  have x11 : w1.cell? ⟨w.heap.size, 1, none⟩ = some (.int .i64 x1) := X1.cell 1 (by simp)
  have y11 : w1.cell? ⟨w.heap.size + 1, 1, none⟩ = some (.int .i64 x1) := Y1.cell 1 (by simp)
  have x12 : w1.cell? ⟨w.heap.size, 2, none⟩ = some (.slice a2 n2 c2) := X1.cell 2 (by simp)
  have y12 : w1.cell? ⟨w.heap.size + 1, 2, none⟩ = some (.slice a2' n2 c2') := Y1.cell 2 (by simp)
  have x13 : w1.cell? ⟨w.heap.size, 3, none⟩ = some (.bool x3) := X1.cell 3 (by simp)
  have y13 : w1.cell? ⟨w.heap.size + 1, 3, none⟩ = some (.bool x3) := Y1.cell 3 (by simp)
  have x14 : w1.cell? ⟨w.heap.size, 4, none⟩ = some (.string x4) := X1.cell 4 (by simp)
  have y14 : w1.cell? ⟨w.heap.size + 1, 4, none⟩ = some (.string x4) := Y1.cell 4 (by simp)
  have x15 : w1.cell? ⟨w.heap.size, 5, none⟩ = some (.int .i64 x5) := X1.cell 5 (by simp)
  have y15 : w1.cell? ⟨w.heap.size + 1, 5, none⟩ = some (.int .i64 x5) := Y1.cell 5 (by simp)
  have x16 : w1.cell? ⟨w.heap.size, 6, none⟩ = some (.int .i64 x6) := X1.cell 6 (by simp)
  have y16 : w1.cell? ⟨w.heap.size + 1, 6, none⟩ = some (.int .i64 x6) := Y1.cell 6 (by simp)
  go_wp2
  go_ret
  exact ⟨rfl, S1⟩

set_option maxHeartbeats 1000000 in
theorem szRuleS_any (a : Option Addr) (n c : Nat) (l : List RuleD) (bs : List Nat) (left : Int) (w : World) (hT : Rules w a l bs) (hn : l.length = n) (hm : n ≤ 9223372036854775807) (h0 : 0 ≤ left) (h1 : left ≤ 1048576) :
    Calls Try.prog 50 #[.slice a n c, .int .i64 left] w fun e w' => e = .returned (.int .i64 (szR left (rulesSz l))) ∧ Bel w w' := by
  have Hn : Hid (l.length = n) := hn
  have HS : Hid (rulesSz l = n + sumTo ruleSz l n) := (by unfold rulesSz; rw [hn] : rulesSz l = n + sumTo ruleSz l n)
  clear hn
  by_cases hf : (n : Int) ≤ left
  · go_enter Try.func50, Try.ntmps50
    go_wp2
    go_loopw [1, 5] (fun t i wr => ∃ (k : Nat) (cur : Int), k ≤ n ∧ i = .int .i64 k ∧ t = .int .i64 cur ∧ 0 ≤ cur ∧ cur ≤ 1048576 ∧ Hid (cur = left - n - sumTo ruleSz l k) ∧ Bel w wr) (fun _ i _ => n - (intOf i).toNat)
    case atStart => exact ⟨0, left - n, Nat.zero_le _, rfl, rfl, by omega, by omega, (by rw [sumTo_zero]; omega : left - (n : Int) = left - n - ((sumTo ruleSz l 0 : Nat) : Int)), Bel.refl _⟩
    case round =>
      obtain ⟨k, cur, hk, rfl, rfl, p0, p1, HC, hbel⟩ := hrel
      by_cases hlt : k < n
      · have hkl : k < l.length := by rw [Hn.out]; exact hlt
        obtain ⟨b, off, f, rfl, hb, hx⟩ := (hT.bel ruleE hbel).out hkl
        obtain ⟨in0, in1, s4, in5, in6, c0, c1, c3, c4, c5, c6, a2, k2, m2, c2, t2⟩ := hx k hkl
        have HU : Hid (sumTo ruleSz l (k + 1) = sumTo ruleSz l k + ruleSz l[k]) := sumTo_succ _ hkl
        have HL : Hid (sumTo ruleSz l (k + 1) ≤ sumTo ruleSz l n) := sumTo_le _ (by omega) Hn.out.symm
        obtain ⟨r, HR⟩ : ∃ r, Hid (szR cur (ruleSz l[k]) = r) := ⟨_, (rfl : szR cur (ruleSz l[k]) = _)⟩
        have hr1 : r ≤ 1048576 := by rw [← HR.out]; exact (szR_bd p1).1
        clear hx hT
        by_cases p : 0 ≤ r
        · have HN : Hid (r = left - n - sumTo ruleSz l (k + 1)) := by
            have h2 := HR.out; have h3 := HC.out; have h4 := HU.out
            have h5 : ((ruleSz l[k] : Nat) : Int) ≤ cur := by
              by_cases h6 : ((ruleSz l[k] : Nat) : Int) ≤ cur
              · exact h6
              · rw [szR_neg h6] at h2; omega
            rw [szR_pos h5] at h2
            show r = _
            omega
          go_wp2_with fail
          refine (szRule_any _ _ a2 _ k2 l[k].tests _ _ _ _ _ cur _ t2 rfl m2 s4 p0 p1).mono ?_
          rintro e w1 ⟨rfl, hb1⟩
          rw [show szR cur (testsSz l[k].tests + l[k].col.size) = r from HR.out]
          have hB1 := bel_step hbel hb1
          clear hb1 hbel
          go_wp2
          go_roundw
          case rel => exact ⟨k + 1, r, by omega, by go_num, rfl, p, hr1, HN, hB1⟩
          case measure => simp [intOf]; omega
        · have HN : Hid (szR left (rulesSz l) = -1) := by
            have h2 := HR.out; have h3 := HC.out; have h4 := HU.out; have h6 := HL.out
            rw [HS.out]
            refine szR_neg fun h7 => p ?_
            have h8 : ((ruleSz l[k] : Nat) : Int) ≤ cur := by omega
            rw [← h2, szR_pos h8]
            omega
          go_wp2_with fail
          refine (szRule_any _ _ a2 _ k2 l[k].tests _ _ _ _ _ cur _ t2 rfl m2 s4 p0 p1).mono ?_
          rintro e w1 ⟨rfl, hb1⟩
          rw [show szR cur (testsSz l[k].tests + l[k].col.size) = r from HR.out]
          have hB1 := bel_step hbel hb1
          clear hb1 hbel
          go_wp2
          go_ret
          exact ⟨ret_num HN.out.symm, hB1⟩
      · have e : k = n := by omega
        subst e
        have HN : Hid (szR left (rulesSz l) = cur) := by
          have h3 := HC.out
          have h5 : ((k + sumTo ruleSz l k : Nat) : Int) ≤ left := by omega
          rw [HS.out, szR_pos h5]
          show _ = _
          omega
        go_wp2
        go_ret
        exact ⟨ret_num HN.out.symm, hbel⟩
  · have HN : Hid (szR left (rulesSz l) = -1) := by rw [HS.out]; exact szR_neg (by omega)
    go_enter Try.func50, Try.ntmps50
    go_wp2
    go_ret
    exact ⟨ret_num HN.out.symm, Bel.refl _⟩

theorem infoRule : (Try.prog.info? 68).map (fun i => (i.zero, i.size, i.bytes)) = some (some (.agg #[.int .i64 0, .int .i64 0, .slice none 0 0, .bool false, .string ⟨#[]⟩, .int .i64 0, .int .i64 0]), 7, 80) := by kernel_rfl
set_option maxHeartbeats 1000000 in
theorem toRuleS_any (a : Option Addr) (n c : Nat) (l : List RuleD) (bs : List Nat) (w : World) (hT : Rules w a l bs) (hn : l.length = n) (hm : n ≤ 1048576) (hs : ∀ i (h : i < l.length), l[i].tests.length ≤ 1048576) :
    Calls Try.prog 52 #[.slice a n c] w fun e w' => ∃ B cs, e = .returned (.slice (some ⟨B, 0, none⟩) n n) ∧ Rules w' (some ⟨B, 0, none⟩) l cs ∧ Fresh w w' cs ∧ Bel w w' := by
  have Hn : Hid (l.length = n) := hn
  clear hn
  have hmk : ∀ w : World, (Instr.makeSlice 79 (.int .i64 n) (.int .i64 n)).run Try.prog w = .ok (.slice (some ⟨w.heap.size, 0, none⟩) n n) (w.alloc (.cells (madeCells #[.int .i64 0, .int .i64 0, .slice none 0 0, .bool false, .string ⟨#[]⟩, .int .i64 0, .int .i64 0] (n * 7)) 68)) := fun w => by
    obtain ⟨i0, hi, hz0, hz1, hz2⟩ := info_parts infoRule
    have := run_make (P := Try.prog) w 79 68 i0 (.agg #[.int .i64 0, .int .i64 0, .slice none 0 0, .bool false, .string ⟨#[]⟩, .int .i64 0, .int .i64 0]) Try.underlying79 hi hz0 .i64 .i64 n n (by omega) (by omega) (by rw [hz2]; omega) (by omega)
    rw [hz1] at this
    exact this
  go_enter Try.func52, Try.ntmps52
  go_wp2
  go_loopw [4] (fun i wr => ∃ k : Nat, k ≤ n ∧ i = .int .i64 k ∧ (∃ f, Fill 7 RuleE wr w.heap.size n k l f) ∧ Bel w wr) (fun i _ => n - (intOf i).toNat)
  case atStart => exact ⟨0, Nat.zero_le _, rfl, ⟨_, Fill.start _ _ _ _ _ _⟩, bel_alloc (Bel.refl _) _⟩
  case round =>
    obtain ⟨k, hk, rfl, ⟨g, hrow⟩, hbel⟩ := hrel
    by_cases hlt : k < n
    · have hkl : k < l.length := by rw [Hn.out]; exact hlt
      obtain ⟨b, off, f, rfl, hb, hx⟩ := (hT.bel ruleE hbel).out hkl
      obtain ⟨in0, in1, s4, in5, in6, c0, c1, c3, c4, c5, c6, a2, k2, m2, c2, t2⟩ := hx k hkl
      clear hx hT
      go_wp2_with fail
      refine (toRule_any _ _ a2 _ k2 l[k].tests _ l[k].hide l[k].col l[k].wd l[k].lay _ t2 rfl (hs k hkl)).mono ?_
      rintro e w1 ⟨D2, d2, rfl, u2, fr, hb1⟩
      have hr1 := hrow.bel ruleE hb1
      have hB1 : Bel w w1 := bel_step hbel hb1
      obtain ⟨v0, d50⟩ := hr1.there (k * 7) (by omega)
      have f0 := hr1.free (k * 7)
      obtain ⟨v1, d51⟩ := hr1.there (k * 7 + 1) (by omega)
      have f1 := hr1.free (k * 7 + 1)
      obtain ⟨v2, d52⟩ := hr1.there (k * 7 + 2) (by omega)
      have f2 := hr1.free (k * 7 + 2)
      obtain ⟨v3, d53⟩ := hr1.there (k * 7 + 3) (by omega)
      have f3 := hr1.free (k * 7 + 3)
      obtain ⟨v4, d54⟩ := hr1.there (k * 7 + 4) (by omega)
      have f4 := hr1.free (k * 7 + 4)
      obtain ⟨v5, d55⟩ := hr1.there (k * 7 + 5) (by omega)
      have f5 := hr1.free (k * 7 + 5)
      obtain ⟨v6, d56⟩ := hr1.there (k * 7 + 6) (by omega)
      have f6 := hr1.free (k * 7 + 6)
      clear c0 c1 c2 c3 c4 c5 c6 hb hbel
      go_wp2
      go_roundw
      case rel =>
        have S := setRow_in w.heap.size [.int .i64 l[k].low, .int .i64 l[k].high, .slice (some ⟨D2, 0, none⟩) l[k].tests.length l[k].tests.length, .bool l[k].hide, .string l[k].col, .int .i64 l[k].wd, .int .i64 l[k].lay] w1 (k * 7) (fun j hj => hr1.there _ (by simp at hj; omega))
        have HE : Tests (setRow w1 w.heap.size (k * 7) [.int .i64 l[k].low, .int .i64 l[k].high, .slice (some ⟨D2, 0, none⟩) l[k].tests.length l[k].tests.length, .bool l[k].hide, .string l[k].col, .int .i64 l[k].wd, .int .i64 l[k].lay]) (some ⟨D2, 0, none⟩) l[k].tests d2 := u2.alike testE (setRow_alike _ (fun x hx => (fr.new x hx).2) (fun hx => by have h1 := (fr.new _ hx).1; have h2 := hrow.lt; omega))
        exact ⟨k + 1, by omega, by go_num, ⟨_, hrow.put ruleE hb1 hlt Hn.out (fr) [.int .i64 l[k].low, .int .i64 l[k].high, .slice (some ⟨D2, 0, none⟩) l[k].tests.length l[k].tests.length, .bool l[k].hide, .string l[k].col, .int .i64 l[k].wd, .int .i64 l[k].lay] rfl ⟨in0, in1, s4, in5, in6, S 0 (by simp), S 1 (by simp), S 3 (by simp), S 4 (by simp), S 5 (by simp), S 6 (by simp), _, _, m2, S 2 (by simp), HE⟩⟩, setRow_bel hB1 (Nat.le_refl _) [.int .i64 l[k].low, .int .i64 l[k].high, .slice (some ⟨D2, 0, none⟩) l[k].tests.length l[k].tests.length, .bool l[k].hide, .string l[k].col, .int .i64 l[k].wd, .int .i64 l[k].lay] (k * 7)⟩
      case measure => simp [intOf]; omega
    · have e : k = n := by omega
      subst e
      go_wp2
      go_ret
      exact ⟨_, _, rfl, hrow.sl Hn.out, hrow.fresh (Nat.le_refl _), hbel⟩

set_option maxHeartbeats 1000000 in
theorem eqRuleS_same (a a' : Option Addr) (n c c' : Nat) (l : List RuleD) (bs bs' : List Nat) (w : World) (hP : Rules w a l bs) (hP' : Rules w a' l bs') (hn : l.length = n) (hm : n ≤ 1048576) (hs : ∀ i (h : i < l.length), l[i].tests.length ≤ 1048576) :
    Calls Try.prog 54 #[.slice a n c, .slice a' n c'] w fun e w' => e = .returned (.bool true) ∧ Bel w w' := by
  have Hn : Hid (l.length = n) := hn
  clear hn
  go_enter Try.func54, Try.ntmps54
  go_wp2
  go_loopw [5] (fun i wr => ∃ k : Nat, k ≤ n ∧ i = .int .i64 k ∧ Bel w wr) (fun i _ => n - (intOf i).toNat)
  case atStart => exact ⟨0, Nat.zero_le _, rfl, Bel.refl _⟩
  case round =>
    obtain ⟨k, hk, rfl, hbel⟩ := hrel
    by_cases hlt : k < n
    · have hkl : k < l.length := by rw [Hn.out]; exact hlt
      obtain ⟨b, off, f, rfl, h2, h3⟩ := (hP.bel ruleE hbel).out hkl
      obtain ⟨b', off', f', rfl, h2', h3'⟩ := (hP'.bel ruleE hbel).out hkl
      obtain ⟨in0, in1, s4, in5, in6, c0, c1, c3, c4, c5, c6, a2, k2, m2, c2, t2⟩ := h3 k hkl
      obtain ⟨in0', in1', s4', in5', in6', c0', c1', c3', c4', c5', c6', a2', k2', m2', c2', t2'⟩ := h3' k hkl
      have hR : ∀ w', Bel wr w' → w'.cell? ⟨b, off + k * 7, none⟩ = some (.int .i64 l[k].low) ∧ w'.cell? ⟨b, off + k * 7 + 1, none⟩ = some (.int .i64 l[k].high) ∧ w'.cell? ⟨b, off + k * 7 + 2, none⟩ = some (.slice a2 l[k].tests.length k2) ∧ w'.cell? ⟨b, off + k * 7 + 3, none⟩ = some (.bool l[k].hide) ∧ w'.cell? ⟨b, off + k * 7 + 4, none⟩ = some (.string l[k].col) ∧ w'.cell? ⟨b, off + k * 7 + 5, none⟩ = some (.int .i64 l[k].wd) ∧ w'.cell? ⟨b, off + k * 7 + 6, none⟩ = some (.int .i64 l[k].lay) ∧ w'.cell? ⟨b', off' + k * 7, none⟩ = some (.int .i64 l[k].low) ∧ w'.cell? ⟨b', off' + k * 7 + 1, none⟩ = some (.int .i64 l[k].high) ∧ w'.cell? ⟨b', off' + k * 7 + 2, none⟩ = some (.slice a2' l[k].tests.length k2') ∧ w'.cell? ⟨b', off' + k * 7 + 3, none⟩ = some (.bool l[k].hide) ∧ w'.cell? ⟨b', off' + k * 7 + 4, none⟩ = some (.string l[k].col) ∧ w'.cell? ⟨b', off' + k * 7 + 5, none⟩ = some (.int .i64 l[k].wd) ∧ w'.cell? ⟨b', off' + k * 7 + 6, none⟩ = some (.int .i64 l[k].lay) :=
        fun w' h => ⟨bel_cellM h h2 c0, bel_cellM h h2 c1, bel_cellM h h2 c2, bel_cellM h h2 c3, bel_cellM h h2 c4, bel_cellM h h2 c5, bel_cellM h h2 c6, bel_cellM h h2' c0', bel_cellM h h2' c1', bel_cellM h h2' c2', bel_cellM h h2' c3', bel_cellM h h2' c4', bel_cellM h h2' c5', bel_cellM h h2' c6'⟩
      have hlt' : (k : Int) < (n : Int) := by omega
      have g0 : Bel wr wr := Bel.refl _
      have T2 : ∀ w', Bel wr w' → Tests w' a2 l[k].tests (f k) := fun w' h => t2.bel testE h
      have T2' : ∀ w', Bel wr w' → Tests w' a2' l[k].tests (f' k) := fun w' h => t2'.bel testE h
      clear h3 h3' c0 c0' c1 c1' c2 c2' c3 c3' c4 c4' c5 c5' c6 c6' h2 h2' hP hP'
      go_wp2
      go_region_held3 (fun w' => Bel wr w') (repeat (first | exact g0 | refine Bel.drew ?_ | assumption | refine bel_then (by assumption) ?_))
        (first
          | (go_at_call 48; refine (eqRule_same _ _ a2 _ k2 l[k].tests (f k) _ _ _ _ a2' k2' (f' k) _ (T2 _ (by assumption)) rfl (T2' _ (by assumption)) (hs k hkl)).mono ?_; rintro e w' ⟨rfl, hbk⟩))
      have hH : Bel wr w' := by assumption
      go_wp2
      go_roundw
      case rel => exact ⟨k + 1, by omega, by go_num, bel_step hbel hH⟩
      case measure => simp [intOf]; omega
    · have e : k = n := by omega
      subst e
      go_wp2
      go_ret
      exact ⟨rfl, hbel⟩

end Go.Proofs.Ytbebgfhblalghaa
