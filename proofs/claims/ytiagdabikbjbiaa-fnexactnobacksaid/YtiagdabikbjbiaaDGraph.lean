/-
  Contracts of the laws' own functions on Graph data: counted, copied, held against each other.
-/
import Derived.Test.YtiagdabikbjbiaaXA
import Derived.Test.YtiagdabikbjbiaaXE
import Derived.Deep.LoopGhost
import Derived.OwnWalk
import Derived.Deep.RegionHeld3
namespace Go.Proofs.Ytiagdabikbjbiaa
open Go.RowKit

set_option maxHeartbeats 1000000 in
theorem szGraph_any (a0 : Option Addr) (n0 c0 : Nat) (l0 : List SpotD) (bs0 : List Nat) (a1 : Option Addr) (n1 c1 : Nat) (l1 : List RoadD) (bs1 : List Nat) (a2 : Option Addr) (n2 c2 : Nat) (l2 : List BanD) (bs2 : List Nat) (left : Int) (w : World) (t0 : SpotL w a0 l0 bs0) (e0 : l0.length = n0) (t1 : RoadL w a1 l1 bs1) (e1 : l1.length = n1) (t2 : BanL w a2 l2 bs2) (e2 : l2.length = n2) (m0 : n0 ≤ 9223372036854775807) (m1 : n1 ≤ 9223372036854775807) (m2 : n2 ≤ 9223372036854775807) (h0 : 0 ≤ left) (h1 : left ≤ 1048576) :
    Calls Try.prog 5 #[.agg #[.slice a0 n0 c0, .slice a1 n1 c1, .slice a2 n2 c2], .int .i64 left] w fun e w' => e = .returned (.int .i64 (szR left (l0.length + roadsSz l1 + l2.length))) ∧ Bel w w' := by
  obtain ⟨r0, H0⟩ : ∃ r, Hid (szR left (l0.length) = r) := ⟨_, (rfl : szR left (l0.length) = _)⟩
  have b0 : r0 ≤ 1048576 := by rw [← H0.out]; exact (szR_bd h1).1
  obtain ⟨r1, H1⟩ : ∃ r, Hid (szR r0 (roadsSz l1) = r) := ⟨_, (rfl : szR r0 (roadsSz l1) = _)⟩
  have b1 : r1 ≤ 1048576 := by rw [← H1.out]; exact (szR_bd b0).1
  obtain ⟨r2, H2⟩ : ∃ r, Hid (szR r1 (l2.length) = r) := ⟨_, (rfl : szR r1 (l2.length) = _)⟩
  have b2 : r2 ≤ 1048576 := by rw [← H2.out]; exact (szR_bd b1).1
  by_cases p0 : 0 ≤ r0
  · have q0 : szR left (l0.length) = r0 := H0.out
    have Q0 : Hid (szR left (l0.length) = r0) := q0
    by_cases p1 : 0 ≤ r1
    · have q1 : szR left (l0.length + roadsSz l1) = r1 := by rw [← szR_add (by rw [q0]; exact p0), q0]; exact H1.out
      have Q1 : Hid (szR left (l0.length + roadsSz l1) = r1) := q1
      by_cases p2 : 0 ≤ r2
      · have q2 : szR left (l0.length + roadsSz l1 + l2.length) = r2 := by rw [← szR_add (by rw [q1]; exact p1), q1]; exact H2.out
        have Q2 : Hid (szR left (l0.length + roadsSz l1 + l2.length) = r2) := q2
        clear q0 q1 q2
        go_enter Try.func5, Try.ntmps5
        go_wp2_with (first | (go_at_call 18; refine (szSpotS_any _ _ _ l0 bs0 _ _ (t0.bel spotE (bel_alloc (Bel.refl _) _)) e0 m0 h0 h1).mono ?_; rintro e w0 ⟨rfl, hb0⟩; have B0 := bel_step (bel_alloc (Bel.refl w) _) hb0; obtain ⟨hc0, _, hz0⟩ := bcell hb0; rw [H0.out]) | (go_at_call 19; refine (szRoadS_any _ _ _ l1 bs1 _ _ (t1.bel roadE (B0)) e1 m1 p0 b0).mono ?_; rintro e w1 ⟨rfl, hb1⟩; have B1 := bel_step B0 hb1; obtain ⟨hc1, _, hz1⟩ := bcell hb1; rw [H1.out]) | (go_at_call 20; refine (szBanS_any _ _ _ l2 bs2 _ _ (t2.bel banE (B1)) e2 m2 p1 b1).mono ?_; rintro e w2 ⟨rfl, hb2⟩; have B2 := bel_step B1 hb2; obtain ⟨hc2, _, hz2⟩ := bcell hb2; rw [H2.out]))
        go_ret
        exact ⟨ret_num Q2.out.symm, by assumption⟩
      · have q2 : szR left (l0.length + roadsSz l1 + l2.length) = r2 := by rw [← szR_add (by rw [q1]; exact p1), q1]; exact H2.out
        have Q : Hid (szR left (l0.length + roadsSz l1 + l2.length) = -1) := (by have := szR_bd (s := l0.length + roadsSz l1 + l2.length) h1; rw [q2] at this ⊢; omega : szR left (l0.length + roadsSz l1 + l2.length) = -1)
        clear q0 q1 q2
        go_enter Try.func5, Try.ntmps5
        go_wp2_with (first | (go_at_call 18; refine (szSpotS_any _ _ _ l0 bs0 _ _ (t0.bel spotE (bel_alloc (Bel.refl _) _)) e0 m0 h0 h1).mono ?_; rintro e w0 ⟨rfl, hb0⟩; have B0 := bel_step (bel_alloc (Bel.refl w) _) hb0; obtain ⟨hc0, _, hz0⟩ := bcell hb0; rw [H0.out]) | (go_at_call 19; refine (szRoadS_any _ _ _ l1 bs1 _ _ (t1.bel roadE (B0)) e1 m1 p0 b0).mono ?_; rintro e w1 ⟨rfl, hb1⟩; have B1 := bel_step B0 hb1; obtain ⟨hc1, _, hz1⟩ := bcell hb1; rw [H1.out]) | (go_at_call 20; refine (szBanS_any _ _ _ l2 bs2 _ _ (t2.bel banE (B1)) e2 m2 p1 b1).mono ?_; rintro e w2 ⟨rfl, hb2⟩; have B2 := bel_step B1 hb2; obtain ⟨hc2, _, hz2⟩ := bcell hb2; rw [H2.out]))
        go_ret
        exact ⟨ret_num Q.out.symm, by assumption⟩
    · have q1 : szR left (l0.length + roadsSz l1) = r1 := by rw [← szR_add (by rw [q0]; exact p0), q0]; exact H1.out
      have Q : Hid (szR left (l0.length + roadsSz l1 + l2.length) = -1) := szR_out (by rw [q1]; omega)
      clear q0 q1
      go_enter Try.func5, Try.ntmps5
      go_wp2_with (first | (go_at_call 18; refine (szSpotS_any _ _ _ l0 bs0 _ _ (t0.bel spotE (bel_alloc (Bel.refl _) _)) e0 m0 h0 h1).mono ?_; rintro e w0 ⟨rfl, hb0⟩; have B0 := bel_step (bel_alloc (Bel.refl w) _) hb0; obtain ⟨hc0, _, hz0⟩ := bcell hb0; rw [H0.out]) | (go_at_call 19; refine (szRoadS_any _ _ _ l1 bs1 _ _ (t1.bel roadE (B0)) e1 m1 p0 b0).mono ?_; rintro e w1 ⟨rfl, hb1⟩; have B1 := bel_step B0 hb1; obtain ⟨hc1, _, hz1⟩ := bcell hb1; rw [H1.out]))
      go_ret
      exact ⟨ret_num Q.out.symm, by assumption⟩
  · have q0 : szR left (l0.length) = r0 := H0.out
    have Q : Hid (szR left (l0.length + roadsSz l1 + l2.length) = -1) := by rw [Nat.add_assoc]; exact szR_out (by rw [q0]; omega)
    clear q0
    go_enter Try.func5, Try.ntmps5
    go_wp2_with (first | (go_at_call 18; refine (szSpotS_any _ _ _ l0 bs0 _ _ (t0.bel spotE (bel_alloc (Bel.refl _) _)) e0 m0 h0 h1).mono ?_; rintro e w0 ⟨rfl, hb0⟩; have B0 := bel_step (bel_alloc (Bel.refl w) _) hb0; obtain ⟨hc0, _, hz0⟩ := bcell hb0; rw [H0.out]))
    go_ret
    exact ⟨ret_num Q.out.symm, by assumption⟩

set_option maxHeartbeats 1000000 in
theorem toGraph_any (a0 : Option Addr) (n0 c0 : Nat) (l0 : List SpotD) (bs0 : List Nat) (a1 : Option Addr) (n1 c1 : Nat) (l1 : List RoadD) (bs1 : List Nat) (a2 : Option Addr) (n2 c2 : Nat) (l2 : List BanD) (bs2 : List Nat) (w : World) (t0 : SpotL w a0 l0 bs0) (e0 : l0.length = n0) (t1 : RoadL w a1 l1 bs1) (e1 : l1.length = n1) (t2 : BanL w a2 l2 bs2) (e2 : l2.length = n2) (m0 : n0 ≤ 1048576) (m1 : n1 ≤ 1048576) (m2 : n2 ≤ 1048576) :
    Calls Try.prog 8 #[.agg #[.slice a0 n0 c0, .slice a1 n1 c1, .slice a2 n2 c2]] w fun e w' => ∃ B0 d0 B1 d1 B2 d2, e = .returned (.agg #[.slice (some ⟨B0, 0, none⟩) n0 n0, .slice (some ⟨B1, 0, none⟩) n1 n1, .slice (some ⟨B2, 0, none⟩) n2 n2]) ∧ SpotL w' (some ⟨B0, 0, none⟩) l0 d0 ∧ RoadL w' (some ⟨B1, 0, none⟩) l1 d1 ∧ BanL w' (some ⟨B2, 0, none⟩) l2 d2 ∧ Fresh w w' (d0 ++ (d1 ++ d2)) ∧ Bel w w' := by
  have E0 : Hid (l0.length = n0) := e0
  have E1 : Hid (l1.length = n1) := e1
  have E2 : Hid (l2.length = n2) := e2
  clear e0 e1 e2
  go_enter Try.func8, Try.ntmps8
  have S0 : Bel w (((w.alloc (.cells #[.slice a0 n0 c0, .slice a1 n1 c1, .slice a2 n2 c2] 26)).alloc (.cells #[.slice none 0 0, .slice none 0 0, .slice none 0 0] 34)).alloc (.cells #[.slice none 0 0, .slice none 0 0, .slice none 0 0] 34)) := bel_alloc (bel_alloc (bel_alloc (Bel.refl _) _) _) _
  have X0 : Blk (((w.alloc (.cells #[.slice a0 n0 c0, .slice a1 n1 c1, .slice a2 n2 c2] 26)).alloc (.cells #[.slice none 0 0, .slice none 0 0, .slice none 0 0] 34)).alloc (.cells #[.slice none 0 0, .slice none 0 0, .slice none 0 0] 34)) (w.heap.size) [.slice a0 n0 c0, .slice a1 n1 c1, .slice a2 n2 c2] := (Blk.new w [.slice a0 n0 c0, .slice a1 n1 c1, .slice a2 n2 c2] 26).bel (bel_alloc (bel_alloc (Bel.refl _) _) _)
  have R0 : Blk (((w.alloc (.cells #[.slice a0 n0 c0, .slice a1 n1 c1, .slice a2 n2 c2] 26)).alloc (.cells #[.slice none 0 0, .slice none 0 0, .slice none 0 0] 34)).alloc (.cells #[.slice none 0 0, .slice none 0 0, .slice none 0 0] 34)) (w.heap.size + 1) [.slice none 0 0, .slice none 0 0, .slice none 0 0] := (Blk.new1 w _ [.slice none 0 0, .slice none 0 0, .slice none 0 0] 34).bel (bel_alloc (Bel.refl _) _)
  have O0 : Blk (((w.alloc (.cells #[.slice a0 n0 c0, .slice a1 n1 c1, .slice a2 n2 c2] 26)).alloc (.cells #[.slice none 0 0, .slice none 0 0, .slice none 0 0] 34)).alloc (.cells #[.slice none 0 0, .slice none 0 0, .slice none 0 0] 34)) (w.heap.size + 1 + 1) [.slice none 0 0, .slice none 0 0, .slice none 0 0] := Blk.new2 w _ _ [.slice none 0 0, .slice none 0 0, .slice none 0 0] 34
  have y0 : w.heap.size + 3 ≤ (((w.alloc (.cells #[.slice a0 n0 c0, .slice a1 n1 c1, .slice a2 n2 c2] 26)).alloc (.cells #[.slice none 0 0, .slice none 0 0, .slice none 0 0] 34)).alloc (.cells #[.slice none 0 0, .slice none 0 0, .slice none 0 0] 34)).heap.size := by simp
  go_wp2_with fail
  refine (toSpotS_any _ _ _ l0 bs0 _ (t0.bel spotE S0) E0.out m0).mono ?_
  rintro e w1 ⟨B0, d0, rfl, u0, f0, hb1⟩
  have V1 := bel_step S0 hb1
  have X1 := X0.bel hb1
  have R1 := R0.bel hb1
  have O1 := O0.bel hb1
  have z1 : w.heap.size + 3 ≤ w1.heap.size := Nat.le_trans y0 hb1.out.size
  have x10 : w1.cell? ⟨w.heap.size, 0, none⟩ = some (.slice a0 n0 c0) := X1.cell 0 (by simp)
  have r10 : w1.cell? ⟨w.heap.size + 1, 0, none⟩ = some (.slice none 0 0) := R1.cell 0 (by simp)
  have o10 : w1.cell? ⟨w.heap.size + 1 + 1, 0, none⟩ = some (.slice none 0 0) := O1.cell 0 (by simp)
  have x11 : w1.cell? ⟨w.heap.size, 1, none⟩ = some (.slice a1 n1 c1) := X1.cell 1 (by simp)
  have r11 : w1.cell? ⟨w.heap.size + 1, 1, none⟩ = some (.slice none 0 0) := R1.cell 1 (by simp)
  have o11 : w1.cell? ⟨w.heap.size + 1 + 1, 1, none⟩ = some (.slice none 0 0) := O1.cell 1 (by simp)
  have x12 : w1.cell? ⟨w.heap.size, 2, none⟩ = some (.slice a2 n2 c2) := X1.cell 2 (by simp)
  have r12 : w1.cell? ⟨w.heap.size + 1, 2, none⟩ = some (.slice none 0 0) := R1.cell 2 (by simp)
  have o12 : w1.cell? ⟨w.heap.size + 1 + 1, 2, none⟩ = some (.slice none 0 0) := O1.cell 2 (by simp)
  have g1 := X1.free
  have gr1 := R1.free
  have go1 := O1.free
  have S1 : Bel w ((w1).setCell ⟨w.heap.size + 1 + 1, 0, none⟩ (.slice (some ⟨B0, 0, none⟩) n0 n0)) := bel_set (V1) (by show w.heap.size ≤ w.heap.size + 1 + 1; omega) _
  have O1 : Blk ((w1).setCell ⟨w.heap.size + 1 + 1, 0, none⟩ (.slice (some ⟨B0, 0, none⟩) n0 n0)) (w.heap.size + 1 + 1) [.slice (some ⟨B0, 0, none⟩) n0 n0, .slice none 0 0, .slice none 0 0] := (O1).set 0 (.slice (some ⟨B0, 0, none⟩) n0 n0) (by simp)
  have X1 : Blk ((w1).setCell ⟨w.heap.size + 1 + 1, 0, none⟩ (.slice (some ⟨B0, 0, none⟩) n0 n0)) (w.heap.size) [.slice a0 n0 c0, .slice a1 n1 c1, .slice a2 n2 c2] := (X1).far (by omega)
  have R1 : Blk ((w1).setCell ⟨w.heap.size + 1 + 1, 0, none⟩ (.slice (some ⟨B0, 0, none⟩) n0 n0)) (w.heap.size + 1) [.slice none 0 0, .slice none 0 0, .slice none 0 0] := (R1).far (by omega)
  have y1 : w.heap.size + 3 ≤ ((w1).setCell ⟨w.heap.size + 1 + 1, 0, none⟩ (.slice (some ⟨B0, 0, none⟩) n0 n0)).heap.size := by simpa [World.setCell] using z1
  have b1 : Abv (w.heap.size + 3) w1 ((w1).setCell ⟨w.heap.size + 1 + 1, 0, none⟩ (.slice (some ⟨B0, 0, none⟩) n0 n0)) := (Abv.refl (w.heap.size + 3) w1).set (by omega) _
  have k1 : w1.heap.size ≤ ((w1).setCell ⟨w.heap.size + 1 + 1, 0, none⟩ (.slice (some ⟨B0, 0, none⟩) n0 n0)).heap.size := b1.1
  go_wp2_with fail
  refine (toRoadS_any _ _ _ l1 bs1 _ (t1.bel roadE S1) E1.out m1).mono ?_
  rintro e w2 ⟨B1, d1, rfl, u1, f1, hb2⟩
  have V2 := bel_step S1 hb2
  have X2 := X1.bel hb2
  have R2 := R1.bel hb2
  have O2 := O1.bel hb2
  have z2 : w.heap.size + 3 ≤ w2.heap.size := Nat.le_trans y1 hb2.out.size
  have x20 : w2.cell? ⟨w.heap.size, 0, none⟩ = some (.slice a0 n0 c0) := X2.cell 0 (by simp)
  have r20 : w2.cell? ⟨w.heap.size + 1, 0, none⟩ = some (.slice none 0 0) := R2.cell 0 (by simp)
  have o20 : w2.cell? ⟨w.heap.size + 1 + 1, 0, none⟩ = some (.slice (some ⟨B0, 0, none⟩) n0 n0) := O2.cell 0 (by simp)
  have x21 : w2.cell? ⟨w.heap.size, 1, none⟩ = some (.slice a1 n1 c1) := X2.cell 1 (by simp)
  have r21 : w2.cell? ⟨w.heap.size + 1, 1, none⟩ = some (.slice none 0 0) := R2.cell 1 (by simp)
  have o21 : w2.cell? ⟨w.heap.size + 1 + 1, 1, none⟩ = some (.slice none 0 0) := O2.cell 1 (by simp)
  have x22 : w2.cell? ⟨w.heap.size, 2, none⟩ = some (.slice a2 n2 c2) := X2.cell 2 (by simp)
  have r22 : w2.cell? ⟨w.heap.size + 1, 2, none⟩ = some (.slice none 0 0) := R2.cell 2 (by simp)
  have o22 : w2.cell? ⟨w.heap.size + 1 + 1, 2, none⟩ = some (.slice none 0 0) := O2.cell 2 (by simp)
  have g2 := X2.free
  have gr2 := R2.free
  have go2 := O2.free
  have S2 : Bel w ((w2).setCell ⟨w.heap.size + 1 + 1, 1, none⟩ (.slice (some ⟨B1, 0, none⟩) n1 n1)) := bel_set (V2) (by show w.heap.size ≤ w.heap.size + 1 + 1; omega) _
  have O2 : Blk ((w2).setCell ⟨w.heap.size + 1 + 1, 1, none⟩ (.slice (some ⟨B1, 0, none⟩) n1 n1)) (w.heap.size + 1 + 1) [.slice (some ⟨B0, 0, none⟩) n0 n0, .slice (some ⟨B1, 0, none⟩) n1 n1, .slice none 0 0] := (O2).set 1 (.slice (some ⟨B1, 0, none⟩) n1 n1) (by simp)
  have X2 : Blk ((w2).setCell ⟨w.heap.size + 1 + 1, 1, none⟩ (.slice (some ⟨B1, 0, none⟩) n1 n1)) (w.heap.size) [.slice a0 n0 c0, .slice a1 n1 c1, .slice a2 n2 c2] := (X2).far (by omega)
  have R2 : Blk ((w2).setCell ⟨w.heap.size + 1 + 1, 1, none⟩ (.slice (some ⟨B1, 0, none⟩) n1 n1)) (w.heap.size + 1) [.slice none 0 0, .slice none 0 0, .slice none 0 0] := (R2).far (by omega)
  have y2 : w.heap.size + 3 ≤ ((w2).setCell ⟨w.heap.size + 1 + 1, 1, none⟩ (.slice (some ⟨B1, 0, none⟩) n1 n1)).heap.size := by simpa [World.setCell] using z2
  have b2 : Abv (w.heap.size + 3) w2 ((w2).setCell ⟨w.heap.size + 1 + 1, 1, none⟩ (.slice (some ⟨B1, 0, none⟩) n1 n1)) := (Abv.refl (w.heap.size + 3) w2).set (by omega) _
  have k2 : w2.heap.size ≤ ((w2).setCell ⟨w.heap.size + 1 + 1, 1, none⟩ (.slice (some ⟨B1, 0, none⟩) n1 n1)).heap.size := b2.1
  go_wp2_with fail
  refine (toBanS_any _ _ _ l2 bs2 _ (t2.bel banE S2) E2.out m2).mono ?_
  rintro e w3 ⟨B2, d2, rfl, u2, f2, hb3⟩
  have V3 := bel_step S2 hb3
  have X3 := X2.bel hb3
  have R3 := R2.bel hb3
  have O3 := O2.bel hb3
  have z3 : w.heap.size + 3 ≤ w3.heap.size := Nat.le_trans y2 hb3.out.size
  have x30 : w3.cell? ⟨w.heap.size, 0, none⟩ = some (.slice a0 n0 c0) := X3.cell 0 (by simp)
  have r30 : w3.cell? ⟨w.heap.size + 1, 0, none⟩ = some (.slice none 0 0) := R3.cell 0 (by simp)
  have o30 : w3.cell? ⟨w.heap.size + 1 + 1, 0, none⟩ = some (.slice (some ⟨B0, 0, none⟩) n0 n0) := O3.cell 0 (by simp)
  have x31 : w3.cell? ⟨w.heap.size, 1, none⟩ = some (.slice a1 n1 c1) := X3.cell 1 (by simp)
  have r31 : w3.cell? ⟨w.heap.size + 1, 1, none⟩ = some (.slice none 0 0) := R3.cell 1 (by simp)
  have o31 : w3.cell? ⟨w.heap.size + 1 + 1, 1, none⟩ = some (.slice (some ⟨B1, 0, none⟩) n1 n1) := O3.cell 1 (by simp)
  have x32 : w3.cell? ⟨w.heap.size, 2, none⟩ = some (.slice a2 n2 c2) := X3.cell 2 (by simp)
  have r32 : w3.cell? ⟨w.heap.size + 1, 2, none⟩ = some (.slice none 0 0) := R3.cell 2 (by simp)
  have o32 : w3.cell? ⟨w.heap.size + 1 + 1, 2, none⟩ = some (.slice none 0 0) := O3.cell 2 (by simp)
  have g3 := X3.free
  have gr3 := R3.free
  have go3 := O3.free
  have c0 : Abv (w.heap.size + 3) w1 w3 := ((b1.bel hb2).trans b2).bel hb3
  have q0 := f0.abv y0 c0
  have F0 : Fresh w w3 d0 := q0.old (Nat.le_trans (Nat.le_add_right _ 3) y0)
  have c1 : Abv (w.heap.size + 3) w2 w3 := b2.bel hb3
  have q1 := f1.abv y1 c1
  have F1 : Fresh w w3 d1 := q1.old (Nat.le_trans (Nat.le_add_right _ 3) y1)
  have c2 : Abv (w.heap.size + 3) w3 w3 := Abv.refl _ _
  have q2 := f2.abv y2 c2
  have F2 : Fresh w w3 d2 := q2.old (Nat.le_trans (Nat.le_add_right _ 3) y2)
  have e21 := hb2.out.size
  have FG := F1.app F2 fun x hx hx' => by have h1 := (f1.new x hx).2; have h2 := (f2.new x hx').1; omega
  have FF := F0.app FG fun x hx hx' => by
    have h1 := (f0.new x hx).2
    rcases List.mem_append.1 hx' with h | h
    · have h2 := (f1.new x h).1; omega
    · have h2 := (f2.new x h).1; omega
  have HN : ∀ x ∈ d0 ++ (d1 ++ d2), w.heap.size + 3 ≤ x := fun x hx => (List.mem_append.1 hx).elim (fun h => Nat.le_trans y0 (f0.new x h).1) (fun h => (List.mem_append.1 h).elim (fun h => Nat.le_trans y1 (f1.new x h).1) (fun h => Nat.le_trans y2 (f2.new x h).1))
  have hA : ∀ W, Abv (w.heap.size + 3) w3 W → Bel w W → SpotL W (some ⟨B0, 0, none⟩) l0 d0 ∧ RoadL W (some ⟨B1, 0, none⟩) l1 d1 ∧ BanL W (some ⟨B2, 0, none⟩) l2 d2 ∧ Fresh w W (d0 ++ (d1 ++ d2)) ∧ Bel w W := fun W h hb => ⟨u0.abv spotE f0 y0 (c0.trans h), u1.abv roadE f1 y1 (c1.trans h), u2.abv banE f2 y2 (c2.trans h), FF.abv0 (fun x hx => HN x hx) h, hb⟩
  go_wp2
  refine bodyPost_ret (v := .agg #[.slice (some ⟨B0, 0, none⟩) n0 n0, .slice (some ⟨B1, 0, none⟩) n1 n1, .slice (some ⟨B2, 0, none⟩) n2 n2]) (by simp [results, Try.results8, go_sem, r30, r31, r32]) rfl ?_
  clear x30 r30 o30 x31 r31 o31 x32 r32 o32
  refine ⟨B0, d0, B1, d1, B2, d2, rfl, hA _ ?_ ?_⟩
  · with_reducible repeat (first | exact Abv.refl _ _ | refine Abv.set ?_ (by omega) _)
  · (with_reducible repeat (first | exact V3 | refine bel_set ?_ ?_ _)) <;> simp <;> omega

set_option maxHeartbeats 1000000 in
theorem eqGraph_same (a0 : Option Addr) (n0 c0 : Nat) (l0 : List SpotD) (bs0 : List Nat) (a1 : Option Addr) (n1 c1 : Nat) (l1 : List RoadD) (bs1 : List Nat) (a2 : Option Addr) (n2 c2 : Nat) (l2 : List BanD) (bs2 : List Nat) (a0' : Option Addr) (c0' : Nat) (bs0' : List Nat) (a1' : Option Addr) (c1' : Nat) (bs1' : List Nat) (a2' : Option Addr) (c2' : Nat) (bs2' : List Nat) (w : World) (t0 : SpotL w a0 l0 bs0) (e0 : l0.length = n0) (t1 : RoadL w a1 l1 bs1) (e1 : l1.length = n1) (t2 : BanL w a2 l2 bs2) (e2 : l2.length = n2) (t0' : SpotL w a0' l0 bs0') (t1' : RoadL w a1' l1 bs1') (t2' : BanL w a2' l2 bs2') (m0 : n0 ≤ 1048576) (m1 : n1 ≤ 1048576) (m2 : n2 ≤ 1048576) :
    Calls Try.prog 11 #[.agg #[.slice a0 n0 c0, .slice a1 n1 c1, .slice a2 n2 c2], .agg #[.slice a0' n0 c0', .slice a1' n1 c1', .slice a2' n2 c2']] w fun e w' => e = .returned (.bool true) ∧ Bel w w' := by
  have S0 : Bel w ((w.alloc (.cells #[.slice a0 n0 c0, .slice a1 n1 c1, .slice a2 n2 c2] 34)).alloc (.cells #[.slice a0' n0 c0', .slice a1' n1 c1', .slice a2' n2 c2'] 34)) := bel_alloc (bel_alloc (Bel.refl _) _) _
  have X0 : Blk ((w.alloc (.cells #[.slice a0 n0 c0, .slice a1 n1 c1, .slice a2 n2 c2] 34)).alloc (.cells #[.slice a0' n0 c0', .slice a1' n1 c1', .slice a2' n2 c2'] 34)) w.heap.size [.slice a0 n0 c0, .slice a1 n1 c1, .slice a2 n2 c2] := (Blk.new w [.slice a0 n0 c0, .slice a1 n1 c1, .slice a2 n2 c2] 34).bel (bel_alloc (Bel.refl _) _)
  have Y0 : Blk ((w.alloc (.cells #[.slice a0 n0 c0, .slice a1 n1 c1, .slice a2 n2 c2] 34)).alloc (.cells #[.slice a0' n0 c0', .slice a1' n1 c1', .slice a2' n2 c2'] 34)) (w.heap.size + 1) [.slice a0' n0 c0', .slice a1' n1 c1', .slice a2' n2 c2'] := Blk.new1 w _ [.slice a0' n0 c0', .slice a1' n1 c1', .slice a2' n2 c2'] 34
  go_enter Try.func11, Try.ntmps11
  go_wp2_with fail
  refine (eqSpotS_same _ _ _ _ _ l0 bs0 bs0' _ (t0.bel spotE S0) (t0'.bel spotE S0) e0 m0).mono ?_
  rintro e w1 ⟨rfl, hb1⟩
  have S1 := bel_step S0 hb1
  have X1 := X0.bel hb1
  have Y1 := Y0.bel hb1
  have x10 : w1.cell? ⟨w.heap.size, 0, none⟩ = some (.slice a0 n0 c0) := X1.cell 0 (by simp)
  have y10 : w1.cell? ⟨w.heap.size + 1, 0, none⟩ = some (.slice a0' n0 c0') := Y1.cell 0 (by simp)
  have x11 : w1.cell? ⟨w.heap.size, 1, none⟩ = some (.slice a1 n1 c1) := X1.cell 1 (by simp)
  have y11 : w1.cell? ⟨w.heap.size + 1, 1, none⟩ = some (.slice a1' n1 c1') := Y1.cell 1 (by simp)
  have x12 : w1.cell? ⟨w.heap.size, 2, none⟩ = some (.slice a2 n2 c2) := X1.cell 2 (by simp)
  have y12 : w1.cell? ⟨w.heap.size + 1, 2, none⟩ = some (.slice a2' n2 c2') := Y1.cell 2 (by simp)
  go_wp2_with fail
  refine (eqRoadS_same _ _ _ _ _ l1 bs1 bs1' _ (t1.bel roadE S1) (t1'.bel roadE S1) e1 m1).mono ?_
  rintro e w2 ⟨rfl, hb2⟩
  have S2 := bel_step S1 hb2
  have X2 := X1.bel hb2
  have Y2 := Y1.bel hb2
  have x20 : w2.cell? ⟨w.heap.size, 0, none⟩ = some (.slice a0 n0 c0) := X2.cell 0 (by simp)
  have y20 : w2.cell? ⟨w.heap.size + 1, 0, none⟩ = some (.slice a0' n0 c0') := Y2.cell 0 (by simp)
  have x21 : w2.cell? ⟨w.heap.size, 1, none⟩ = some (.slice a1 n1 c1) := X2.cell 1 (by simp)
  have y21 : w2.cell? ⟨w.heap.size + 1, 1, none⟩ = some (.slice a1' n1 c1') := Y2.cell 1 (by simp)
  have x22 : w2.cell? ⟨w.heap.size, 2, none⟩ = some (.slice a2 n2 c2) := X2.cell 2 (by simp)
  have y22 : w2.cell? ⟨w.heap.size + 1, 2, none⟩ = some (.slice a2' n2 c2') := Y2.cell 2 (by simp)
  go_wp2_with fail
  refine (eqBanS_same _ _ _ _ _ l2 bs2 bs2' _ (t2.bel banE S2) (t2'.bel banE S2) e2 m2).mono ?_
  rintro e w3 ⟨rfl, hb3⟩
  have S3 := bel_step S2 hb3
  go_wp2
  go_ret
  exact ⟨rfl, S3⟩

end Go.Proofs.Ytiagdabikbjbiaa
