/-
  Contracts of the laws' own functions on Area data: counted, copied, held against each other.
-/
import Derived.Test.YtmmapkpieimibaaGreatMem
import Derived.Test.YtmmapkpieimibaaGreatDTag
import Derived.Test.YtmmapkpieimibaaGreatDPart
import Derived.Deep.LoopGhost
import Derived.OwnWalk
import Derived.Deep.RegionHeld3
namespace Go.Proofs.YtmmapkpieimibaaGreat
open Go.RowKit

set_option maxHeartbeats 1000000 in
theorem szArea_any (x0 : Int) (a1 : Option Addr) (n1 c1 : Nat) (l1 : List PartD) (bs1 : List Nat) (a2 : Option Addr) (n2 c2 : Nat) (l2 : List TagD) (bs2 : List Nat) (left : Int) (w : World) (t1 : Parts w a1 l1 bs1) (e1 : l1.length = n1) (t2 : Tags w a2 l2 bs2) (e2 : l2.length = n2) (m1 : n1 ≤ 9223372036854775807) (m2 : n2 ≤ 9223372036854775807) (h0 : 0 ≤ left) (h1 : left ≤ 1048576) :
    Calls Tryz.prog 72 #[.agg #[.int .i64 x0, .slice a1 n1 c1, .slice a2 n2 c2], .int .i64 left] w fun e w' => e = .returned (.int .i64 (szR left (l1.length + tagsSz l2))) ∧ Bel w w' := by
  obtain ⟨r0, H0⟩ : ∃ r, Hid (szR left (l1.length) = r) := ⟨_, (rfl : szR left (l1.length) = _)⟩
  have b0 : r0 ≤ 1048576 := by rw [← H0.out]; exact (szR_bd h1).1
  obtain ⟨r1, H1⟩ : ∃ r, Hid (szR r0 (tagsSz l2) = r) := ⟨_, (rfl : szR r0 (tagsSz l2) = _)⟩
  have b1 : r1 ≤ 1048576 := by rw [← H1.out]; exact (szR_bd b0).1
  by_cases p0 : 0 ≤ r0
  · have q0 : szR left (l1.length) = r0 := H0.out
    have Q0 : Hid (szR left (l1.length) = r0) := q0
    by_cases p1 : 0 ≤ r1
    · have q1 : szR left (l1.length + tagsSz l2) = r1 := by rw [← szR_add (by rw [q0]; exact p0), q0]; exact H1.out
      have Q1 : Hid (szR left (l1.length + tagsSz l2) = r1) := q1
      clear q0 q1
      go_enter Tryz.func72, Tryz.ntmps72
      go_wp2_with (first | (go_at_call 102; refine (szPartS_any _ _ _ l1 bs1 _ _ (t1.bel partE (bel_alloc (Bel.refl _) _)) e1 m1 h0 h1).mono ?_; rintro e w0 ⟨rfl, hb0⟩; have B0 := bel_step (bel_alloc (Bel.refl w) _) hb0; obtain ⟨hc0, _, hz0⟩ := bcell hb0; rw [H0.out]) | (go_at_call 100; refine (szTagS_any _ _ _ l2 bs2 _ _ (t2.bel tagE (B0)) e2 m2 p0 b0).mono ?_; rintro e w1 ⟨rfl, hb1⟩; have B1 := bel_step B0 hb1; obtain ⟨hc1, _, hz1⟩ := bcell hb1; rw [H1.out]))
      go_ret
      exact ⟨ret_num Q1.out.symm, by assumption⟩
    · have q1 : szR left (l1.length + tagsSz l2) = r1 := by rw [← szR_add (by rw [q0]; exact p0), q0]; exact H1.out
      have Q : Hid (szR left (l1.length + tagsSz l2) = -1) := (by have := szR_bd (s := l1.length + tagsSz l2) h1; rw [q1] at this ⊢; omega : szR left (l1.length + tagsSz l2) = -1)
      clear q0 q1
      go_enter Tryz.func72, Tryz.ntmps72
      go_wp2_with (first | (go_at_call 102; refine (szPartS_any _ _ _ l1 bs1 _ _ (t1.bel partE (bel_alloc (Bel.refl _) _)) e1 m1 h0 h1).mono ?_; rintro e w0 ⟨rfl, hb0⟩; have B0 := bel_step (bel_alloc (Bel.refl w) _) hb0; obtain ⟨hc0, _, hz0⟩ := bcell hb0; rw [H0.out]) | (go_at_call 100; refine (szTagS_any _ _ _ l2 bs2 _ _ (t2.bel tagE (B0)) e2 m2 p0 b0).mono ?_; rintro e w1 ⟨rfl, hb1⟩; have B1 := bel_step B0 hb1; obtain ⟨hc1, _, hz1⟩ := bcell hb1; rw [H1.out]))
      go_ret
      exact ⟨ret_num Q.out.symm, by assumption⟩
  · have q0 : szR left (l1.length) = r0 := H0.out
    have Q : Hid (szR left (l1.length + tagsSz l2) = -1) := szR_out (by rw [q0]; omega)
    clear q0
    go_enter Tryz.func72, Tryz.ntmps72
    go_wp2_with (first | (go_at_call 102; refine (szPartS_any _ _ _ l1 bs1 _ _ (t1.bel partE (bel_alloc (Bel.refl _) _)) e1 m1 h0 h1).mono ?_; rintro e w0 ⟨rfl, hb0⟩; have B0 := bel_step (bel_alloc (Bel.refl w) _) hb0; obtain ⟨hc0, _, hz0⟩ := bcell hb0; rw [H0.out]))
    go_ret
    exact ⟨ret_num Q.out.symm, by assumption⟩

set_option maxHeartbeats 1000000 in
theorem toArea_any (x0 : Int) (a1 : Option Addr) (n1 c1 : Nat) (l1 : List PartD) (bs1 : List Nat) (a2 : Option Addr) (n2 c2 : Nat) (l2 : List TagD) (bs2 : List Nat) (w : World) (t1 : Parts w a1 l1 bs1) (e1 : l1.length = n1) (t2 : Tags w a2 l2 bs2) (e2 : l2.length = n2) (m1 : n1 ≤ 1048576) (m2 : n2 ≤ 1048576) :
    Calls Tryz.prog 80 #[.agg #[.int .i64 x0, .slice a1 n1 c1, .slice a2 n2 c2]] w fun e w' => ∃ B1 d1 B2 d2, e = .returned (.agg #[.int .i64 x0, .slice (some ⟨B1, 0, none⟩) n1 n1, .slice (some ⟨B2, 0, none⟩) n2 n2]) ∧ Parts w' (some ⟨B1, 0, none⟩) l1 d1 ∧ Tags w' (some ⟨B2, 0, none⟩) l2 d2 ∧ Fresh w w' (d1 ++ d2) ∧ Bel w w' := by
  have E1 : Hid (l1.length = n1) := e1
  have E2 : Hid (l2.length = n2) := e2
  clear e1 e2
  go_enter Tryz.func80, Tryz.ntmps80
  have S0 : Bel w (((w.alloc (.cells #[.int .i64 x0, .slice a1 n1 c1, .slice a2 n2 c2] 154)).alloc (.cells #[.int .i64 0, .slice none 0 0, .slice none 0 0] 68)).alloc (.cells #[.int .i64 x0, .slice none 0 0, .slice none 0 0] 68)) := bel_alloc (bel_alloc (bel_alloc (Bel.refl _) _) _) _
  have X0 : Blk (((w.alloc (.cells #[.int .i64 x0, .slice a1 n1 c1, .slice a2 n2 c2] 154)).alloc (.cells #[.int .i64 0, .slice none 0 0, .slice none 0 0] 68)).alloc (.cells #[.int .i64 x0, .slice none 0 0, .slice none 0 0] 68)) (w.heap.size) [.int .i64 x0, .slice a1 n1 c1, .slice a2 n2 c2] := (Blk.new w [.int .i64 x0, .slice a1 n1 c1, .slice a2 n2 c2] 154).bel (bel_alloc (bel_alloc (Bel.refl _) _) _)
  have R0 : Blk (((w.alloc (.cells #[.int .i64 x0, .slice a1 n1 c1, .slice a2 n2 c2] 154)).alloc (.cells #[.int .i64 0, .slice none 0 0, .slice none 0 0] 68)).alloc (.cells #[.int .i64 x0, .slice none 0 0, .slice none 0 0] 68)) (w.heap.size + 1) [.int .i64 0, .slice none 0 0, .slice none 0 0] := (Blk.new1 w _ [.int .i64 0, .slice none 0 0, .slice none 0 0] 68).bel (bel_alloc (Bel.refl _) _)
  have O0 : Blk (((w.alloc (.cells #[.int .i64 x0, .slice a1 n1 c1, .slice a2 n2 c2] 154)).alloc (.cells #[.int .i64 0, .slice none 0 0, .slice none 0 0] 68)).alloc (.cells #[.int .i64 x0, .slice none 0 0, .slice none 0 0] 68)) (w.heap.size + 1 + 1) [.int .i64 x0, .slice none 0 0, .slice none 0 0] := Blk.new2 w _ _ [.int .i64 x0, .slice none 0 0, .slice none 0 0] 68
  have y0 : w.heap.size + 3 ≤ (((w.alloc (.cells #[.int .i64 x0, .slice a1 n1 c1, .slice a2 n2 c2] 154)).alloc (.cells #[.int .i64 0, .slice none 0 0, .slice none 0 0] 68)).alloc (.cells #[.int .i64 x0, .slice none 0 0, .slice none 0 0] 68)).heap.size := by simp
  go_wp2_with fail
  refine (toPartS_any _ _ _ l1 bs1 _ (t1.bel partE S0) E1.out m1).mono ?_
  rintro e w1 ⟨B1, d1, rfl, u1, f1, hb1⟩
  have V1 := bel_step S0 hb1
  have X1 := X0.bel hb1
  have R1 := R0.bel hb1
  have O1 := O0.bel hb1
  have z1 : w.heap.size + 3 ≤ w1.heap.size := Nat.le_trans y0 hb1.out.size
  have x10 : w1.cell? ⟨w.heap.size, 0, none⟩ = some (.int .i64 x0) := X1.cell 0 (by simp)
  have r10 : w1.cell? ⟨w.heap.size + 1, 0, none⟩ = some (.int .i64 0) := R1.cell 0 (by simp)
  have o10 : w1.cell? ⟨w.heap.size + 1 + 1, 0, none⟩ = some (.int .i64 x0) := O1.cell 0 (by simp)
  have x11 : w1.cell? ⟨w.heap.size, 1, none⟩ = some (.slice a1 n1 c1) := X1.cell 1 (by simp)
  have r11 : w1.cell? ⟨w.heap.size + 1, 1, none⟩ = some (.slice none 0 0) := R1.cell 1 (by simp)
  have o11 : w1.cell? ⟨w.heap.size + 1 + 1, 1, none⟩ = some (.slice none 0 0) := O1.cell 1 (by simp)
  have x12 : w1.cell? ⟨w.heap.size, 2, none⟩ = some (.slice a2 n2 c2) := X1.cell 2 (by simp)
  have r12 : w1.cell? ⟨w.heap.size + 1, 2, none⟩ = some (.slice none 0 0) := R1.cell 2 (by simp)
  have o12 : w1.cell? ⟨w.heap.size + 1 + 1, 2, none⟩ = some (.slice none 0 0) := O1.cell 2 (by simp)
  have g1 := X1.free
  have gr1 := R1.free
  have go1 := O1.free
  have S1 : Bel w ((w1).setCell ⟨w.heap.size + 1 + 1, 1, none⟩ (.slice (some ⟨B1, 0, none⟩) n1 n1)) := bel_set (V1) (by show w.heap.size ≤ w.heap.size + 1 + 1; omega) _
  have O1 : Blk ((w1).setCell ⟨w.heap.size + 1 + 1, 1, none⟩ (.slice (some ⟨B1, 0, none⟩) n1 n1)) (w.heap.size + 1 + 1) [.int .i64 x0, .slice (some ⟨B1, 0, none⟩) n1 n1, .slice none 0 0] := (O1).set 1 (.slice (some ⟨B1, 0, none⟩) n1 n1) (by simp)
  have X1 : Blk ((w1).setCell ⟨w.heap.size + 1 + 1, 1, none⟩ (.slice (some ⟨B1, 0, none⟩) n1 n1)) (w.heap.size) [.int .i64 x0, .slice a1 n1 c1, .slice a2 n2 c2] := (X1).far (by omega)
  have R1 : Blk ((w1).setCell ⟨w.heap.size + 1 + 1, 1, none⟩ (.slice (some ⟨B1, 0, none⟩) n1 n1)) (w.heap.size + 1) [.int .i64 0, .slice none 0 0, .slice none 0 0] := (R1).far (by omega)
  have y1 : w.heap.size + 3 ≤ ((w1).setCell ⟨w.heap.size + 1 + 1, 1, none⟩ (.slice (some ⟨B1, 0, none⟩) n1 n1)).heap.size := by simpa [World.setCell] using z1
  have b1 : Abv (w.heap.size + 3) w1 ((w1).setCell ⟨w.heap.size + 1 + 1, 1, none⟩ (.slice (some ⟨B1, 0, none⟩) n1 n1)) := (Abv.refl (w.heap.size + 3) w1).set (by omega) _
  have k1 : w1.heap.size ≤ ((w1).setCell ⟨w.heap.size + 1 + 1, 1, none⟩ (.slice (some ⟨B1, 0, none⟩) n1 n1)).heap.size := b1.1
  go_wp2_with fail
  refine (toTagS_any _ _ _ l2 bs2 _ (t2.bel tagE S1) E2.out m2).mono ?_
  rintro e w2 ⟨B2, d2, rfl, u2, f2, hb2⟩
  have V2 := bel_step S1 hb2
  have X2 := X1.bel hb2
  have R2 := R1.bel hb2
  have O2 := O1.bel hb2
  have z2 : w.heap.size + 3 ≤ w2.heap.size := Nat.le_trans y1 hb2.out.size
  have x20 : w2.cell? ⟨w.heap.size, 0, none⟩ = some (.int .i64 x0) := X2.cell 0 (by simp)
  have r20 : w2.cell? ⟨w.heap.size + 1, 0, none⟩ = some (.int .i64 0) := R2.cell 0 (by simp)
  have o20 : w2.cell? ⟨w.heap.size + 1 + 1, 0, none⟩ = some (.int .i64 x0) := O2.cell 0 (by simp)
  have x21 : w2.cell? ⟨w.heap.size, 1, none⟩ = some (.slice a1 n1 c1) := X2.cell 1 (by simp)
  have r21 : w2.cell? ⟨w.heap.size + 1, 1, none⟩ = some (.slice none 0 0) := R2.cell 1 (by simp)
  have o21 : w2.cell? ⟨w.heap.size + 1 + 1, 1, none⟩ = some (.slice (some ⟨B1, 0, none⟩) n1 n1) := O2.cell 1 (by simp)
  have x22 : w2.cell? ⟨w.heap.size, 2, none⟩ = some (.slice a2 n2 c2) := X2.cell 2 (by simp)
  have r22 : w2.cell? ⟨w.heap.size + 1, 2, none⟩ = some (.slice none 0 0) := R2.cell 2 (by simp)
  have o22 : w2.cell? ⟨w.heap.size + 1 + 1, 2, none⟩ = some (.slice none 0 0) := O2.cell 2 (by simp)
  have g2 := X2.free
  have gr2 := R2.free
  have go2 := O2.free
  have c1 : Abv (w.heap.size + 3) w1 w2 := b1.bel hb2
  have q1 := f1.abv y0 c1
  have F1 : Fresh w w2 d1 := q1.old (Nat.le_trans (Nat.le_add_right _ 3) y0)
  have c2 : Abv (w.heap.size + 3) w2 w2 := Abv.refl _ _
  have q2 := f2.abv y1 c2
  have F2 : Fresh w w2 d2 := q2.old (Nat.le_trans (Nat.le_add_right _ 3) y1)
  have FF := F1.app F2 fun x hx hx' => by have h1 := (f1.new x hx).2; have h2 := (f2.new x hx').1; omega
  have HN : ∀ x ∈ d1 ++ d2, w.heap.size + 3 ≤ x := fun x hx => (List.mem_append.1 hx).elim (fun h => Nat.le_trans y0 (f1.new x h).1) (fun h => Nat.le_trans y1 (f2.new x h).1)
  have hA : ∀ W, Abv (w.heap.size + 3) w2 W → Bel w W → Parts W (some ⟨B1, 0, none⟩) l1 d1 ∧ Tags W (some ⟨B2, 0, none⟩) l2 d2 ∧ Fresh w W (d1 ++ d2) ∧ Bel w W := fun W h hb => ⟨u1.abv partE f1 y0 (c1.trans h), u2.abv tagE f2 y1 (c2.trans h), FF.abv0 (fun x hx => HN x hx) h, hb⟩
  go_wp2
  refine bodyPost_ret (v := .agg #[.int .i64 x0, .slice (some ⟨B1, 0, none⟩) n1 n1, .slice (some ⟨B2, 0, none⟩) n2 n2]) (by simp [results, Tryz.results80, go_sem, r20, r21, r22]) rfl ?_
  clear x20 r20 o20 x21 r21 o21 x22 r22 o22
  refine ⟨B1, d1, B2, d2, rfl, hA _ ?_ ?_⟩
  · with_reducible repeat (first | exact Abv.refl _ _ | refine Abv.set ?_ (by omega) _)
  · (with_reducible repeat (first | exact V2 | refine bel_set ?_ ?_ _)) <;> simp <;> omega

set_option maxHeartbeats 1000000 in
theorem eqArea_same (x0 : Int) (a1 : Option Addr) (n1 c1 : Nat) (l1 : List PartD) (bs1 : List Nat) (a2 : Option Addr) (n2 c2 : Nat) (l2 : List TagD) (bs2 : List Nat) (a1' : Option Addr) (c1' : Nat) (bs1' : List Nat) (a2' : Option Addr) (c2' : Nat) (bs2' : List Nat) (w : World) (t1 : Parts w a1 l1 bs1) (e1 : l1.length = n1) (t2 : Tags w a2 l2 bs2) (e2 : l2.length = n2) (t1' : Parts w a1' l1 bs1') (t2' : Tags w a2' l2 bs2') (m1 : n1 ≤ 1048576) (m2 : n2 ≤ 1048576) :
    Calls Tryz.prog 94 #[.agg #[.int .i64 x0, .slice a1 n1 c1, .slice a2 n2 c2], .agg #[.int .i64 x0, .slice a1' n1 c1', .slice a2' n2 c2']] w fun e w' => e = .returned (.bool true) ∧ Bel w w' := by
  have S0 : Bel w ((w.alloc (.cells #[.int .i64 x0, .slice a1 n1 c1, .slice a2 n2 c2] 68)).alloc (.cells #[.int .i64 x0, .slice a1' n1 c1', .slice a2' n2 c2'] 68)) := bel_alloc (bel_alloc (Bel.refl _) _) _
  have X0 : Blk ((w.alloc (.cells #[.int .i64 x0, .slice a1 n1 c1, .slice a2 n2 c2] 68)).alloc (.cells #[.int .i64 x0, .slice a1' n1 c1', .slice a2' n2 c2'] 68)) w.heap.size [.int .i64 x0, .slice a1 n1 c1, .slice a2 n2 c2] := (Blk.new w [.int .i64 x0, .slice a1 n1 c1, .slice a2 n2 c2] 68).bel (bel_alloc (Bel.refl _) _)
  have Y0 : Blk ((w.alloc (.cells #[.int .i64 x0, .slice a1 n1 c1, .slice a2 n2 c2] 68)).alloc (.cells #[.int .i64 x0, .slice a1' n1 c1', .slice a2' n2 c2'] 68)) (w.heap.size + 1) [.int .i64 x0, .slice a1' n1 c1', .slice a2' n2 c2'] := Blk.new1 w _ [.int .i64 x0, .slice a1' n1 c1', .slice a2' n2 c2'] 68
  go_enter Tryz.func94, Tryz.ntmps94
  go_wp2_with fail
  refine (eqPartS_same _ _ _ _ _ l1 bs1 bs1' _ (t1.bel partE S0) (t1'.bel partE S0) e1 m1).mono ?_
  rintro e w1 ⟨rfl, hb1⟩
  have S1 := bel_step S0 hb1
  have X1 := X0.bel hb1
  have Y1 := Y0.bel hb1
  have x10 : w1.cell? ⟨w.heap.size, 0, none⟩ = some (.int .i64 x0) := X1.cell 0 (by simp)
  have y10 : w1.cell? ⟨w.heap.size + 1, 0, none⟩ = some (.int .i64 x0) := Y1.cell 0 (by simp)
  have x11 : w1.cell? ⟨w.heap.size, 1, none⟩ = some (.slice a1 n1 c1) := X1.cell 1 (by simp)
  have y11 : w1.cell? ⟨w.heap.size + 1, 1, none⟩ = some (.slice a1' n1 c1') := Y1.cell 1 (by simp)
  have x12 : w1.cell? ⟨w.heap.size, 2, none⟩ = some (.slice a2 n2 c2) := X1.cell 2 (by simp)
  have y12 : w1.cell? ⟨w.heap.size + 1, 2, none⟩ = some (.slice a2' n2 c2') := Y1.cell 2 (by simp)
  go_wp2_with fail
  refine (eqTagS_same _ _ _ _ _ l2 bs2 bs2' _ (t2.bel tagE S1) (t2'.bel tagE S1) e2 m2).mono ?_
  rintro e w2 ⟨rfl, hb2⟩
  have S2 := bel_step S1 hb2
  go_wp2
  go_ret
  exact ⟨rfl, S2⟩

set_option maxHeartbeats 1000000 in
theorem szAreaS_any (a : Option Addr) (n c : Nat) (l : List AreaD) (bs : List Nat) (left : Int) (w : World) (hT : Areas w a l bs) (hn : l.length = n) (hm : n ≤ 9223372036854775807) (h0 : 0 ≤ left) (h1 : left ≤ 1048576) :
    Calls Tryz.prog 20 #[.slice a n c, .int .i64 left] w fun e w' => e = .returned (.int .i64 (szR left (areasSz l))) ∧ Bel w w' := by
  have Hn : Hid (l.length = n) := hn
  have HS : Hid (areasSz l = n + sumTo areaSz l n) := (by unfold areasSz; rw [hn] : areasSz l = n + sumTo areaSz l n)
  clear hn
  by_cases hf : (n : Int) ≤ left
  · go_enter Tryz.func20, Tryz.ntmps20
    go_wp2
    go_loopw [1, 5] (fun t i wr => ∃ (k : Nat) (cur : Int), k ≤ n ∧ i = .int .i64 k ∧ t = .int .i64 cur ∧ 0 ≤ cur ∧ cur ≤ 1048576 ∧ Hid (cur = left - n - sumTo areaSz l k) ∧ Bel w wr) (fun _ i _ => n - (intOf i).toNat)
    case atStart => exact ⟨0, left - n, Nat.zero_le _, rfl, rfl, by omega, by omega, (by rw [sumTo_zero]; omega : left - (n : Int) = left - n - ((sumTo areaSz l 0 : Nat) : Int)), Bel.refl _⟩
    case round =>
      obtain ⟨k, cur, hk, rfl, rfl, p0, p1, HC, hbel⟩ := hrel
      by_cases hlt : k < n
      · have hkl : k < l.length := by rw [Hn.out]; exact hlt
        obtain ⟨b, off, f, rfl, hb, hx⟩ := (hT.bel areaE hbel).out hkl
        obtain ⟨in0, c0, a1, k1, a2, k2, bs1, bs2, _, m1, m2, c1, t1, c2, t2⟩ := hx k hkl
        have HU : Hid (sumTo areaSz l (k + 1) = sumTo areaSz l k + areaSz l[k]) := sumTo_succ _ hkl
        have HL : Hid (sumTo areaSz l (k + 1) ≤ sumTo areaSz l n) := sumTo_le _ (by omega) Hn.out.symm
        obtain ⟨r, HR⟩ : ∃ r, Hid (szR cur (areaSz l[k]) = r) := ⟨_, (rfl : szR cur (areaSz l[k]) = _)⟩
        have hr1 : r ≤ 1048576 := by rw [← HR.out]; exact (szR_bd p1).1
        clear hx hT
        by_cases p : 0 ≤ r
        · have HN : Hid (r = left - n - sumTo areaSz l (k + 1)) := by
            have h2 := HR.out; have h3 := HC.out; have h4 := HU.out
            have h5 : ((areaSz l[k] : Nat) : Int) ≤ cur := by
              by_cases h6 : ((areaSz l[k] : Nat) : Int) ≤ cur
              · exact h6
              · rw [szR_neg h6] at h2; omega
            rw [szR_pos h5] at h2
            show r = _
            omega
          go_wp2_with fail
          refine (szArea_any _ a1 _ k1 l[k].parts bs1 a2 _ k2 l[k].tags bs2 cur _ t1 rfl t2 rfl m1 m2 p0 p1).mono ?_
          rintro e w1 ⟨rfl, hb1⟩
          rw [show szR cur (l[k].parts.length + tagsSz l[k].tags) = r from HR.out]
          have hB1 := bel_step hbel hb1
          clear hb1 hbel
          go_wp2
          go_roundw
          case rel => exact ⟨k + 1, r, by omega, by go_num, rfl, p, hr1, HN, hB1⟩
          case measure => simp [intOf]; omega
        · have HN : Hid (szR left (areasSz l) = -1) := by
            have h2 := HR.out; have h3 := HC.out; have h4 := HU.out; have h6 := HL.out
            rw [HS.out]
            refine szR_neg fun h7 => p ?_
            have h8 : ((areaSz l[k] : Nat) : Int) ≤ cur := by omega
            rw [← h2, szR_pos h8]
            omega
          go_wp2_with fail
          refine (szArea_any _ a1 _ k1 l[k].parts bs1 a2 _ k2 l[k].tags bs2 cur _ t1 rfl t2 rfl m1 m2 p0 p1).mono ?_
          rintro e w1 ⟨rfl, hb1⟩
          rw [show szR cur (l[k].parts.length + tagsSz l[k].tags) = r from HR.out]
          have hB1 := bel_step hbel hb1
          clear hb1 hbel
          go_wp2
          go_ret
          exact ⟨ret_num HN.out.symm, hB1⟩
      · have e : k = n := by omega
        subst e
        have HN : Hid (szR left (areasSz l) = cur) := by
          have h3 := HC.out
          have h5 : ((k + sumTo areaSz l k : Nat) : Int) ≤ left := by omega
          rw [HS.out, szR_pos h5]
          show _ = _
          omega
        go_wp2
        go_ret
        exact ⟨ret_num HN.out.symm, hbel⟩
  · have HN : Hid (szR left (areasSz l) = -1) := by rw [HS.out]; exact szR_neg (by omega)
    go_enter Tryz.func20, Tryz.ntmps20
    go_wp2
    go_ret
    exact ⟨ret_num HN.out.symm, Bel.refl _⟩

theorem infoArea : (Tryz.prog.info? 68).map (fun i => (i.zero, i.size, i.bytes)) = some (some (.agg #[.int .i64 0, .slice none 0 0, .slice none 0 0]), 3, 56) := by kernel_rfl
set_option maxHeartbeats 1000000 in
theorem toAreaS_any (a : Option Addr) (n c : Nat) (l : List AreaD) (bs : List Nat) (w : World) (hT : Areas w a l bs) (hn : l.length = n) (hm : n ≤ 1048576) (hs : ∀ i (h : i < l.length), l[i].parts.length ≤ 1048576 ∧ l[i].tags.length ≤ 1048576) :
    Calls Tryz.prog 30 #[.slice a n c] w fun e w' => ∃ B cs, e = .returned (.slice (some ⟨B, 0, none⟩) n n) ∧ Areas w' (some ⟨B, 0, none⟩) l cs ∧ Fresh w w' cs ∧ Bel w w' := by
  have Hn : Hid (l.length = n) := hn
  clear hn
  have hmk : ∀ w : World, (Instr.makeSlice 34 (.int .i64 n) (.int .i64 n)).run Tryz.prog w = .ok (.slice (some ⟨w.heap.size, 0, none⟩) n n) (w.alloc (.cells (madeCells #[.int .i64 0, .slice none 0 0, .slice none 0 0] (n * 3)) 68)) := fun w => by
    obtain ⟨i0, hi, hz0, hz1, hz2⟩ := info_parts infoArea
    have := run_make (P := Tryz.prog) w 34 68 i0 (.agg #[.int .i64 0, .slice none 0 0, .slice none 0 0]) Tryz.underlying34 hi hz0 .i64 .i64 n n (by omega) (by omega) (by rw [hz2]; omega) (by omega)
    rw [hz1] at this
    exact this
  go_enter Tryz.func30, Tryz.ntmps30
  go_wp2
  go_loopw [4] (fun i wr => ∃ k : Nat, k ≤ n ∧ i = .int .i64 k ∧ (∃ f, Fill 3 AreaE wr w.heap.size n k l f) ∧ Bel w wr) (fun i _ => n - (intOf i).toNat)
  case atStart => exact ⟨0, Nat.zero_le _, rfl, ⟨_, Fill.start _ _ _ _ _ _⟩, bel_alloc (Bel.refl _) _⟩
  case round =>
    obtain ⟨k, hk, rfl, ⟨g, hrow⟩, hbel⟩ := hrel
    by_cases hlt : k < n
    · have hkl : k < l.length := by rw [Hn.out]; exact hlt
      obtain ⟨b, off, f, rfl, hb, hx⟩ := (hT.bel areaE hbel).out hkl
      obtain ⟨in0, c0, a1, k1, a2, k2, bs1, bs2, _, m1, m2, c1, t1, c2, t2⟩ := hx k hkl
      clear hx hT
      go_wp2_with fail
      refine (toArea_any _ a1 _ k1 l[k].parts bs1 a2 _ k2 l[k].tags bs2 _ t1 rfl t2 rfl (hs k hkl).1 (hs k hkl).2).mono ?_
      rintro e w1 ⟨D1, d1, D2, d2, rfl, u1, u2, fr, hb1⟩
      have hr1 := hrow.bel areaE hb1
      have hB1 : Bel w w1 := bel_step hbel hb1
      obtain ⟨v0, d50⟩ := hr1.there (k * 3) (by omega)
      have f0 := hr1.free (k * 3)
      obtain ⟨v1, d51⟩ := hr1.there (k * 3 + 1) (by omega)
      have f1 := hr1.free (k * 3 + 1)
      obtain ⟨v2, d52⟩ := hr1.there (k * 3 + 2) (by omega)
      have f2 := hr1.free (k * 3 + 2)
      clear c0 c1 c2 hb hbel
      go_wp2
      go_roundw
      case rel =>
        have S := setRow_in w.heap.size [.int .i64 l[k].id, .slice (some ⟨D1, 0, none⟩) l[k].parts.length l[k].parts.length, .slice (some ⟨D2, 0, none⟩) l[k].tags.length l[k].tags.length] w1 (k * 3) (fun j hj => hr1.there _ (by simp at hj; omega))
        have HE1 : Parts (setRow w1 w.heap.size (k * 3) [.int .i64 l[k].id, .slice (some ⟨D1, 0, none⟩) l[k].parts.length l[k].parts.length, .slice (some ⟨D2, 0, none⟩) l[k].tags.length l[k].tags.length]) (some ⟨D1, 0, none⟩) l[k].parts d1 := u1.alike partE (setRow_alike _ (fun x hx => (fr.new x (List.mem_append.2 (.inl hx))).2) (fun hx => by have h1 := (fr.new _ (List.mem_append.2 (.inl hx))).1; have h2 := hrow.lt; omega))
        have HE2 : Tags (setRow w1 w.heap.size (k * 3) [.int .i64 l[k].id, .slice (some ⟨D1, 0, none⟩) l[k].parts.length l[k].parts.length, .slice (some ⟨D2, 0, none⟩) l[k].tags.length l[k].tags.length]) (some ⟨D2, 0, none⟩) l[k].tags d2 := u2.alike tagE (setRow_alike _ (fun x hx => (fr.new x (List.mem_append.2 (.inr hx))).2) (fun hx => by have h1 := (fr.new _ (List.mem_append.2 (.inr hx))).1; have h2 := hrow.lt; omega))
        exact ⟨k + 1, by omega, by go_num, ⟨_, hrow.put areaE hb1 hlt Hn.out (fr) [.int .i64 l[k].id, .slice (some ⟨D1, 0, none⟩) l[k].parts.length l[k].parts.length, .slice (some ⟨D2, 0, none⟩) l[k].tags.length l[k].tags.length] rfl ⟨in0, S 0 (by simp), _, _, _, _, _, _, rfl, m1, m2, S 1 (by simp), HE1, S 2 (by simp), HE2⟩⟩, setRow_bel hB1 (Nat.le_refl _) [.int .i64 l[k].id, .slice (some ⟨D1, 0, none⟩) l[k].parts.length l[k].parts.length, .slice (some ⟨D2, 0, none⟩) l[k].tags.length l[k].tags.length] (k * 3)⟩
      case measure => simp [intOf]; omega
    · have e : k = n := by omega
      subst e
      go_wp2
      go_ret
      exact ⟨_, _, rfl, hrow.sl Hn.out, hrow.fresh (Nat.le_refl _), hbel⟩

set_option maxHeartbeats 1000000 in
theorem eqAreaS_same (a a' : Option Addr) (n c c' : Nat) (l : List AreaD) (bs bs' : List Nat) (w : World) (hP : Areas w a l bs) (hP' : Areas w a' l bs') (hn : l.length = n) (hm : n ≤ 1048576) (hs : ∀ i (h : i < l.length), l[i].parts.length ≤ 1048576 ∧ l[i].tags.length ≤ 1048576) :
    Calls Tryz.prog 42 #[.slice a n c, .slice a' n c'] w fun e w' => e = .returned (.bool true) ∧ Bel w w' := by
  have Hn : Hid (l.length = n) := hn
  clear hn
  go_enter Tryz.func42, Tryz.ntmps42
  go_wp2
  go_loopw [5] (fun i wr => ∃ k : Nat, k ≤ n ∧ i = .int .i64 k ∧ Bel w wr) (fun i _ => n - (intOf i).toNat)
  case atStart => exact ⟨0, Nat.zero_le _, rfl, Bel.refl _⟩
  case round =>
    obtain ⟨k, hk, rfl, hbel⟩ := hrel
    by_cases hlt : k < n
    · have hkl : k < l.length := by rw [Hn.out]; exact hlt
      obtain ⟨b, off, f, rfl, h2, h3⟩ := (hP.bel areaE hbel).out hkl
      obtain ⟨b', off', f', rfl, h2', h3'⟩ := (hP'.bel areaE hbel).out hkl
      obtain ⟨in0, c0, a1, k1, a2, k2, bs1, bs2, _, m1, m2, c1, t1, c2, t2⟩ := h3 k hkl
      obtain ⟨in0', c0', a1', k1', a2', k2', bs1', bs2', _, m1', m2', c1', t1', c2', t2'⟩ := h3' k hkl
      have hR : ∀ w', Bel wr w' → w'.cell? ⟨b, off + k * 3, none⟩ = some (.int .i64 l[k].id) ∧ w'.cell? ⟨b, off + k * 3 + 1, none⟩ = some (.slice a1 l[k].parts.length k1) ∧ w'.cell? ⟨b, off + k * 3 + 2, none⟩ = some (.slice a2 l[k].tags.length k2) ∧ w'.cell? ⟨b', off' + k * 3, none⟩ = some (.int .i64 l[k].id) ∧ w'.cell? ⟨b', off' + k * 3 + 1, none⟩ = some (.slice a1' l[k].parts.length k1') ∧ w'.cell? ⟨b', off' + k * 3 + 2, none⟩ = some (.slice a2' l[k].tags.length k2') :=
        fun w' h => ⟨bel_cellM h h2 c0, bel_cellM h h2 c1, bel_cellM h h2 c2, bel_cellM h h2' c0', bel_cellM h h2' c1', bel_cellM h h2' c2'⟩
      have hlt' : (k : Int) < (n : Int) := by omega
      have g0 : Bel wr wr := Bel.refl _
      have T1 : ∀ w', Bel wr w' → Parts w' a1 l[k].parts bs1 := fun w' h => t1.bel partE h
      have T2 : ∀ w', Bel wr w' → Tags w' a2 l[k].tags bs2 := fun w' h => t2.bel tagE h
      have T1' : ∀ w', Bel wr w' → Parts w' a1' l[k].parts bs1' := fun w' h => t1'.bel partE h
      have T2' : ∀ w', Bel wr w' → Tags w' a2' l[k].tags bs2' := fun w' h => t2'.bel tagE h
      clear h3 h3' c0 c0' c1 c1' c2 c2' h2 h2' hP hP'
      go_wp2
      go_region_held3 (fun w' => Bel wr w') (repeat (first | exact g0 | refine Bel.drew ?_ | assumption | refine bel_then (by assumption) ?_))
        (first
          | (go_at_call 94; refine (eqArea_same _ a1 _ k1 l[k].parts bs1 a2 _ k2 l[k].tags bs2 a1' k1' bs1' a2' k2' bs2' _ (T1 _ (by assumption)) rfl (T2 _ (by assumption)) rfl (T1' _ (by assumption)) (T2' _ (by assumption)) (hs k hkl).1 (hs k hkl).2).mono ?_; rintro e w' ⟨rfl, hbk⟩))
      have hH : Bel wr w' := by assumption
      go_wp2
      go_roundw
      case rel => exact ⟨k + 1, by omega, by go_num, bel_step hbel hH⟩
      case measure => simp [intOf]; omega
    · have e : k = n := by omega
      subst e
      go_wp2
      go_ret
      exact ⟨rfl, hbel⟩

end Go.Proofs.YtmmapkpieimibaaGreat
