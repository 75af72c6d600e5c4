/-
  Contracts of the laws' own functions on Node data: counted, copied, held against each other.
-/
import Derived.Test.YtmmapkpieimibaaGreatMem
import Derived.Test.YtmmapkpieimibaaGreatDTag
import Derived.Deep.LoopGhost
import Derived.OwnWalk
import Derived.Deep.RegionHeld3
namespace Go.Proofs.YtmmapkpieimibaaGreat
open Go.RowKit

theorem eqPt_same (x y : Int) (w : World) :
    Calls Tryz.prog 118 #[pt x y, pt x y] w fun e w' => e = .returned (.bool true) ∧ Bel w w' := by
  go_enter Tryz.func118, Tryz.ntmps118
  go_wp2
  go_ret
  exact ⟨rfl, bel_alloc (bel_alloc (Bel.refl _) _) _⟩

set_option maxHeartbeats 1000000 in
theorem szNode_any (x0 : Int) (x1 : Int) (x2 : Int) (a3 : Option Addr) (n3 c3 : Nat) (l3 : List TagD) (bs3 : List Nat) (left : Int) (w : World) (t3 : Tags w a3 l3 bs3) (e3 : l3.length = n3) (m3 : n3 ≤ 9223372036854775807) (h0 : 0 ≤ left) (h1 : left ≤ 1048576) :
    Calls Tryz.prog 70 #[.agg #[.int .i64 x0, .int .i64 x1, .int .i64 x2, .slice a3 n3 c3], .int .i64 left] w fun e w' => e = .returned (.int .i64 (szR left (tagsSz l3))) ∧ Bel w w' := by
  obtain ⟨r0, H0⟩ : ∃ r, Hid (szR left (tagsSz l3) = r) := ⟨_, (rfl : szR left (tagsSz l3) = _)⟩
  have b0 : r0 ≤ 1048576 := by rw [← H0.out]; exact (szR_bd h1).1
  by_cases p0 : 0 ≤ r0
  · have q0 : szR left (tagsSz l3) = r0 := H0.out
    have Q0 : Hid (szR left (tagsSz l3) = r0) := q0
    clear q0
    go_enter Tryz.func70, Tryz.ntmps70
    go_wp2_with (first | (go_at_call 100; refine (szTagS_any _ _ _ l3 bs3 _ _ (t3.bel tagE (bel_alloc (Bel.refl _) _)) e3 m3 h0 h1).mono ?_; rintro e w0 ⟨rfl, hb0⟩; have B0 := bel_step (bel_alloc (Bel.refl w) _) hb0; obtain ⟨hc0, _, hz0⟩ := bcell hb0; rw [H0.out]))
    go_ret
    exact ⟨ret_num Q0.out.symm, by assumption⟩
  · have q0 : szR left (tagsSz l3) = r0 := H0.out
    have Q : Hid (szR left (tagsSz l3) = -1) := (by have := szR_bd (s := tagsSz l3) h1; rw [q0] at this ⊢; omega : szR left (tagsSz l3) = -1)
    clear q0
    go_enter Tryz.func70, Tryz.ntmps70
    go_wp2_with (first | (go_at_call 100; refine (szTagS_any _ _ _ l3 bs3 _ _ (t3.bel tagE (bel_alloc (Bel.refl _) _)) e3 m3 h0 h1).mono ?_; rintro e w0 ⟨rfl, hb0⟩; have B0 := bel_step (bel_alloc (Bel.refl w) _) hb0; obtain ⟨hc0, _, hz0⟩ := bcell hb0; rw [H0.out]))
    go_ret
    exact ⟨ret_num Q.out.symm, by assumption⟩

set_option maxHeartbeats 1000000 in
theorem toNode_any (x0 : Int) (x1 : Int) (x2 : Int) (a3 : Option Addr) (n3 c3 : Nat) (l3 : List TagD) (bs3 : List Nat) (w : World) (t3 : Tags w a3 l3 bs3) (e3 : l3.length = n3) (m3 : n3 ≤ 1048576) :
    Calls Tryz.prog 78 #[.agg #[.int .i64 x0, .int .i64 x1, .int .i64 x2, .slice a3 n3 c3]] w fun e w' => ∃ B3 d3, e = .returned (.agg #[.int .i64 x0, .int .i64 x1, .int .i64 x2, .slice (some ⟨B3, 0, none⟩) n3 n3]) ∧ Tags w' (some ⟨B3, 0, none⟩) l3 d3 ∧ Fresh w w' (d3) ∧ Bel w w' := by
  have E3 : Hid (l3.length = n3) := e3
  clear e3
  go_enter Tryz.func78, Tryz.ntmps78
  have S0 : Bel w (((w.alloc (.cells #[.int .i64 x0, .int .i64 x1, .int .i64 x2, .slice a3 n3 c3] 147)).alloc (.cells #[.int .i64 0, .int .i64 0, .int .i64 0, .slice none 0 0] 58)).alloc (.cells #[.int .i64 x0, .int .i64 0, .int .i64 0, .slice none 0 0] 58)) := bel_alloc (bel_alloc (bel_alloc (Bel.refl _) _) _) _
  have X0 : Blk (((w.alloc (.cells #[.int .i64 x0, .int .i64 x1, .int .i64 x2, .slice a3 n3 c3] 147)).alloc (.cells #[.int .i64 0, .int .i64 0, .int .i64 0, .slice none 0 0] 58)).alloc (.cells #[.int .i64 x0, .int .i64 0, .int .i64 0, .slice none 0 0] 58)) (w.heap.size) [.int .i64 x0, .int .i64 x1, .int .i64 x2, .slice a3 n3 c3] := (Blk.new w [.int .i64 x0, .int .i64 x1, .int .i64 x2, .slice a3 n3 c3] 147).bel (bel_alloc (bel_alloc (Bel.refl _) _) _)
  have R0 : Blk (((w.alloc (.cells #[.int .i64 x0, .int .i64 x1, .int .i64 x2, .slice a3 n3 c3] 147)).alloc (.cells #[.int .i64 0, .int .i64 0, .int .i64 0, .slice none 0 0] 58)).alloc (.cells #[.int .i64 x0, .int .i64 0, .int .i64 0, .slice none 0 0] 58)) (w.heap.size + 1) [.int .i64 0, .int .i64 0, .int .i64 0, .slice none 0 0] := (Blk.new1 w _ [.int .i64 0, .int .i64 0, .int .i64 0, .slice none 0 0] 58).bel (bel_alloc (Bel.refl _) _)
  have O0 : Blk (((w.alloc (.cells #[.int .i64 x0, .int .i64 x1, .int .i64 x2, .slice a3 n3 c3] 147)).alloc (.cells #[.int .i64 0, .int .i64 0, .int .i64 0, .slice none 0 0] 58)).alloc (.cells #[.int .i64 x0, .int .i64 0, .int .i64 0, .slice none 0 0] 58)) (w.heap.size + 1 + 1) [.int .i64 x0, .int .i64 0, .int .i64 0, .slice none 0 0] := Blk.new2 w _ _ [.int .i64 x0, .int .i64 0, .int .i64 0, .slice none 0 0] 58
  have y0 : w.heap.size + 3 ≤ (((w.alloc (.cells #[.int .i64 x0, .int .i64 x1, .int .i64 x2, .slice a3 n3 c3] 147)).alloc (.cells #[.int .i64 0, .int .i64 0, .int .i64 0, .slice none 0 0] 58)).alloc (.cells #[.int .i64 x0, .int .i64 0, .int .i64 0, .slice none 0 0] 58)).heap.size := by simp
  go_wp2_with fail
  refine (toPoint_any _ _ _).mono ?_
  rintro e w1 ⟨rfl, hb1⟩
  have V1 := bel_step S0 hb1
  have X1 := X0.bel hb1
  have R1 := R0.bel hb1
  have O1 := O0.bel hb1
  have z1 : w.heap.size + 3 ≤ w1.heap.size := Nat.le_trans y0 hb1.out.size
  have x10 : w1.cell? ⟨w.heap.size, 0, none⟩ = some (.int .i64 x0) := X1.cell 0 (by simp)
  have r10 : w1.cell? ⟨w.heap.size + 1, 0, none⟩ = some (.int .i64 0) := R1.cell 0 (by simp)
  have o10 : w1.cell? ⟨w.heap.size + 1 + 1, 0, none⟩ = some (.int .i64 x0) := O1.cell 0 (by simp)
  have x11 : w1.cell? ⟨w.heap.size, 1, none⟩ = some (.int .i64 x1) := X1.cell 1 (by simp)
  have r11 : w1.cell? ⟨w.heap.size + 1, 1, none⟩ = some (.int .i64 0) := R1.cell 1 (by simp)
  have o11 : w1.cell? ⟨w.heap.size + 1 + 1, 1, none⟩ = some (.int .i64 0) := O1.cell 1 (by simp)
  have x12 : w1.cell? ⟨w.heap.size, 2, none⟩ = some (.int .i64 x2) := X1.cell 2 (by simp)
  have r12 : w1.cell? ⟨w.heap.size + 1, 2, none⟩ = some (.int .i64 0) := R1.cell 2 (by simp)
  have o12 : w1.cell? ⟨w.heap.size + 1 + 1, 2, none⟩ = some (.int .i64 0) := O1.cell 2 (by simp)
  have x13 : w1.cell? ⟨w.heap.size, 3, none⟩ = some (.slice a3 n3 c3) := X1.cell 3 (by simp)
  have r13 : w1.cell? ⟨w.heap.size + 1, 3, none⟩ = some (.slice none 0 0) := R1.cell 3 (by simp)
  have o13 : w1.cell? ⟨w.heap.size + 1 + 1, 3, none⟩ = some (.slice none 0 0) := O1.cell 3 (by simp)
  have g1 := X1.free
  have gr1 := R1.free
  have go1 := O1.free
  have S1 : Bel w (((w1).setCell ⟨w.heap.size + 1 + 1, 1, none⟩ (.int .i64 x1)).setCell ⟨w.heap.size + 1 + 1, 2, none⟩ (.int .i64 x2)) := bel_set (bel_set (V1) (by show w.heap.size ≤ w.heap.size + 1 + 1; omega) _) (by show w.heap.size ≤ w.heap.size + 1 + 1; omega) _
  have O1 : Blk (((w1).setCell ⟨w.heap.size + 1 + 1, 1, none⟩ (.int .i64 x1)).setCell ⟨w.heap.size + 1 + 1, 2, none⟩ (.int .i64 x2)) (w.heap.size + 1 + 1) [.int .i64 x0, .int .i64 x1, .int .i64 x2, .slice none 0 0] := ((O1).set 1 (.int .i64 x1) (by simp)).set 2 (.int .i64 x2) (by simp)
  have X1 : Blk (((w1).setCell ⟨w.heap.size + 1 + 1, 1, none⟩ (.int .i64 x1)).setCell ⟨w.heap.size + 1 + 1, 2, none⟩ (.int .i64 x2)) (w.heap.size) [.int .i64 x0, .int .i64 x1, .int .i64 x2, .slice a3 n3 c3] := ((X1).far (by omega)).far (by omega)
  have R1 : Blk (((w1).setCell ⟨w.heap.size + 1 + 1, 1, none⟩ (.int .i64 x1)).setCell ⟨w.heap.size + 1 + 1, 2, none⟩ (.int .i64 x2)) (w.heap.size + 1) [.int .i64 0, .int .i64 0, .int .i64 0, .slice none 0 0] := ((R1).far (by omega)).far (by omega)
  have y1 : w.heap.size + 3 ≤ (((w1).setCell ⟨w.heap.size + 1 + 1, 1, none⟩ (.int .i64 x1)).setCell ⟨w.heap.size + 1 + 1, 2, none⟩ (.int .i64 x2)).heap.size := by simpa [World.setCell] using z1
  have b1 : Abv (w.heap.size + 3) w1 (((w1).setCell ⟨w.heap.size + 1 + 1, 1, none⟩ (.int .i64 x1)).setCell ⟨w.heap.size + 1 + 1, 2, none⟩ (.int .i64 x2)) := ((Abv.refl (w.heap.size + 3) w1).set (by omega) _).set (by omega) _
  have k1 : w1.heap.size ≤ (((w1).setCell ⟨w.heap.size + 1 + 1, 1, none⟩ (.int .i64 x1)).setCell ⟨w.heap.size + 1 + 1, 2, none⟩ (.int .i64 x2)).heap.size := b1.1
  go_wp2_with fail
  refine (toTagS_any _ _ _ l3 bs3 _ (t3.bel tagE S1) E3.out m3).mono ?_
  rintro e w2 ⟨B3, d3, rfl, u3, f3, hb2⟩
  have V2 := bel_step S1 hb2
  have X2 := X1.bel hb2
  have R2 := R1.bel hb2
  have O2 := O1.bel hb2
  have z2 : w.heap.size + 3 ≤ w2.heap.size := Nat.le_trans y1 hb2.out.size
  have x20 : w2.cell? ⟨w.heap.size, 0, none⟩ = some (.int .i64 x0) := X2.cell 0 (by simp)
  have r20 : w2.cell? ⟨w.heap.size + 1, 0, none⟩ = some (.int .i64 0) := R2.cell 0 (by simp)
  have o20 : w2.cell? ⟨w.heap.size + 1 + 1, 0, none⟩ = some (.int .i64 x0) := O2.cell 0 (by simp)
  have x21 : w2.cell? ⟨w.heap.size, 1, none⟩ = some (.int .i64 x1) := X2.cell 1 (by simp)
  have r21 : w2.cell? ⟨w.heap.size + 1, 1, none⟩ = some (.int .i64 0) := R2.cell 1 (by simp)
  have o21 : w2.cell? ⟨w.heap.size + 1 + 1, 1, none⟩ = some (.int .i64 x1) := O2.cell 1 (by simp)
  have x22 : w2.cell? ⟨w.heap.size, 2, none⟩ = some (.int .i64 x2) := X2.cell 2 (by simp)
  have r22 : w2.cell? ⟨w.heap.size + 1, 2, none⟩ = some (.int .i64 0) := R2.cell 2 (by simp)
  have o22 : w2.cell? ⟨w.heap.size + 1 + 1, 2, none⟩ = some (.int .i64 x2) := O2.cell 2 (by simp)
  have x23 : w2.cell? ⟨w.heap.size, 3, none⟩ = some (.slice a3 n3 c3) := X2.cell 3 (by simp)
  have r23 : w2.cell? ⟨w.heap.size + 1, 3, none⟩ = some (.slice none 0 0) := R2.cell 3 (by simp)
  have o23 : w2.cell? ⟨w.heap.size + 1 + 1, 3, none⟩ = some (.slice none 0 0) := O2.cell 3 (by simp)
  have g2 := X2.free
  have gr2 := R2.free
  have go2 := O2.free
  have c3 : Abv (w.heap.size + 3) w2 w2 := Abv.refl _ _
  have q3 := f3.abv y1 c3
  have F3 : Fresh w w2 d3 := q3.old (Nat.le_trans (Nat.le_add_right _ 3) y1)
  have FF := F3
  have HN : ∀ x ∈ d3, w.heap.size + 3 ≤ x := fun x hx => Nat.le_trans y1 (f3.new x hx).1
  have hA : ∀ W, Abv (w.heap.size + 3) w2 W → Bel w W → Tags W (some ⟨B3, 0, none⟩) l3 d3 ∧ Fresh w W (d3) ∧ Bel w W := fun W h hb => ⟨u3.abv tagE f3 y1 (c3.trans h), FF.abv0 (fun x hx => HN x hx) h, hb⟩
  go_wp2
  refine bodyPost_ret (v := .agg #[.int .i64 x0, .int .i64 x1, .int .i64 x2, .slice (some ⟨B3, 0, none⟩) n3 n3]) (by simp [results, Tryz.results78, go_sem, r20, r21, r22, r23]) rfl ?_
  clear x20 r20 o20 x21 r21 o21 x22 r22 o22 x23 r23 o23
  refine ⟨B3, d3, rfl, hA _ ?_ ?_⟩
  · with_reducible repeat (first | exact Abv.refl _ _ | refine Abv.set ?_ (by omega) _)
  · (with_reducible repeat (first | exact V2 | refine bel_set ?_ ?_ _)) <;> simp <;> omega

set_option maxHeartbeats 1000000 in
theorem eqNode_same (x0 : Int) (x1 : Int) (x2 : Int) (a3 : Option Addr) (n3 c3 : Nat) (l3 : List TagD) (bs3 : List Nat) (a3' : Option Addr) (c3' : Nat) (bs3' : List Nat) (w : World) (t3 : Tags w a3 l3 bs3) (e3 : l3.length = n3) (t3' : Tags w a3' l3 bs3') (m3 : n3 ≤ 1048576) :
    Calls Tryz.prog 92 #[.agg #[.int .i64 x0, .int .i64 x1, .int .i64 x2, .slice a3 n3 c3], .agg #[.int .i64 x0, .int .i64 x1, .int .i64 x2, .slice a3' n3 c3']] w fun e w' => e = .returned (.bool true) ∧ Bel w w' := by
  have S0 : Bel w ((w.alloc (.cells #[.int .i64 x0, .int .i64 x1, .int .i64 x2, .slice a3 n3 c3] 58)).alloc (.cells #[.int .i64 x0, .int .i64 x1, .int .i64 x2, .slice a3' n3 c3'] 58)) := bel_alloc (bel_alloc (Bel.refl _) _) _
  have X0 : Blk ((w.alloc (.cells #[.int .i64 x0, .int .i64 x1, .int .i64 x2, .slice a3 n3 c3] 58)).alloc (.cells #[.int .i64 x0, .int .i64 x1, .int .i64 x2, .slice a3' n3 c3'] 58)) w.heap.size [.int .i64 x0, .int .i64 x1, .int .i64 x2, .slice a3 n3 c3] := (Blk.new w [.int .i64 x0, .int .i64 x1, .int .i64 x2, .slice a3 n3 c3] 58).bel (bel_alloc (Bel.refl _) _)
  have Y0 : Blk ((w.alloc (.cells #[.int .i64 x0, .int .i64 x1, .int .i64 x2, .slice a3 n3 c3] 58)).alloc (.cells #[.int .i64 x0, .int .i64 x1, .int .i64 x2, .slice a3' n3 c3'] 58)) (w.heap.size + 1) [.int .i64 x0, .int .i64 x1, .int .i64 x2, .slice a3' n3 c3'] := Blk.new1 w _ [.int .i64 x0, .int .i64 x1, .int .i64 x2, .slice a3' n3 c3'] 58
  go_enter Tryz.func92, Tryz.ntmps92
  go_wp2_with fail
  refine (eqPt_same _ _ _).mono ?_
  rintro e w1 ⟨rfl, hb1⟩
  have S1 := bel_step S0 hb1
  have X1 := X0.bel hb1
  have Y1 := Y0.bel hb1
  have x10 : w1.cell? ⟨w.heap.size, 0, none⟩ = some (.int .i64 x0) := X1.cell 0 (by simp)
  have y10 : w1.cell? ⟨w.heap.size + 1, 0, none⟩ = some (.int .i64 x0) := Y1.cell 0 (by simp)
  have x11 : w1.cell? ⟨w.heap.size, 1, none⟩ = some (.int .i64 x1) := X1.cell 1 (by simp)
  have y11 : w1.cell? ⟨w.heap.size + 1, 1, none⟩ = some (.int .i64 x1) := Y1.cell 1 (by simp)
  have x12 : w1.cell? ⟨w.heap.size, 2, none⟩ = some (.int .i64 x2) := X1.cell 2 (by simp)
  have y12 : w1.cell? ⟨w.heap.size + 1, 2, none⟩ = some (.int .i64 x2) := Y1.cell 2 (by simp)
  have x13 : w1.cell? ⟨w.heap.size, 3, none⟩ = some (.slice a3 n3 c3) := X1.cell 3 (by simp)
  have y13 : w1.cell? ⟨w.heap.size + 1, 3, none⟩ = some (.slice a3' n3 c3') := Y1.cell 3 (by simp)
  go_wp2_with fail
  refine (eqTagS_same _ _ _ _ _ l3 bs3 bs3' _ (t3.bel tagE S1) (t3'.bel tagE S1) e3 m3).mono ?_
  rintro e w2 ⟨rfl, hb2⟩
  have S2 := bel_step S1 hb2
  go_wp2
  go_ret
  exact ⟨rfl, S2⟩

set_option maxHeartbeats 1000000 in
theorem szNodeS_any (a : Option Addr) (n c : Nat) (l : List NodeD) (bs : List Nat) (left : Int) (w : World) (hT : Nodes w a l bs) (hn : l.length = n) (hm : n ≤ 9223372036854775807) (h0 : 0 ≤ left) (h1 : left ≤ 1048576) :
    Calls Tryz.prog 18 #[.slice a n c, .int .i64 left] w fun e w' => e = .returned (.int .i64 (szR left (nodesSz l))) ∧ Bel w w' := by
  have Hn : Hid (l.length = n) := hn
  have HS : Hid (nodesSz l = n + sumTo nodeSz l n) := (by unfold nodesSz; rw [hn] : nodesSz l = n + sumTo nodeSz l n)
  clear hn
  by_cases hf : (n : Int) ≤ left
  · go_enter Tryz.func18, Tryz.ntmps18
    go_wp2
    go_loopw [1, 5] (fun t i wr => ∃ (k : Nat) (cur : Int), k ≤ n ∧ i = .int .i64 k ∧ t = .int .i64 cur ∧ 0 ≤ cur ∧ cur ≤ 1048576 ∧ Hid (cur = left - n - sumTo nodeSz l k) ∧ Bel w wr) (fun _ i _ => n - (intOf i).toNat)
    case atStart => exact ⟨0, left - n, Nat.zero_le _, rfl, rfl, by omega, by omega, (by rw [sumTo_zero]; omega : left - (n : Int) = left - n - ((sumTo nodeSz l 0 : Nat) : Int)), Bel.refl _⟩
    case round =>
      obtain ⟨k, cur, hk, rfl, rfl, p0, p1, HC, hbel⟩ := hrel
      by_cases hlt : k < n
      · have hkl : k < l.length := by rw [Hn.out]; exact hlt
        obtain ⟨b, off, f, rfl, hb, hx⟩ := (hT.bel nodeE hbel).out hkl
        obtain ⟨in0, in1, in2, c0, c1, c2, a3, k3, m3, c3, t3⟩ := hx k hkl
        have HU : Hid (sumTo nodeSz l (k + 1) = sumTo nodeSz l k + nodeSz l[k]) := sumTo_succ _ hkl
        have HL : Hid (sumTo nodeSz l (k + 1) ≤ sumTo nodeSz l n) := sumTo_le _ (by omega) Hn.out.symm
        obtain ⟨r, HR⟩ : ∃ r, Hid (szR cur (nodeSz l[k]) = r) := ⟨_, (rfl : szR cur (nodeSz l[k]) = _)⟩
        have hr1 : r ≤ 1048576 := by rw [← HR.out]; exact (szR_bd p1).1
        clear hx hT
        by_cases p : 0 ≤ r
        · have HN : Hid (r = left - n - sumTo nodeSz l (k + 1)) := by
            have h2 := HR.out; have h3 := HC.out; have h4 := HU.out
            have h5 : ((nodeSz l[k] : Nat) : Int) ≤ cur := by
              by_cases h6 : ((nodeSz l[k] : Nat) : Int) ≤ cur
              · exact h6
              · rw [szR_neg h6] at h2; omega
            rw [szR_pos h5] at h2
            show r = _
            omega
          go_wp2_with fail
          refine (szNode_any _ _ _ a3 _ k3 l[k].tags _ cur _ t3 rfl m3 p0 p1).mono ?_
          rintro e w1 ⟨rfl, hb1⟩
          rw [show szR cur (tagsSz l[k].tags) = r from HR.out]
          have hB1 := bel_step hbel hb1
          clear hb1 hbel
          go_wp2
          go_roundw
          case rel => exact ⟨k + 1, r, by omega, by go_num, rfl, p, hr1, HN, hB1⟩
          case measure => simp [intOf]; omega
        · have HN : Hid (szR left (nodesSz l) = -1) := by
            have h2 := HR.out; have h3 := HC.out; have h4 := HU.out; have h6 := HL.out
            rw [HS.out]
            refine szR_neg fun h7 => p ?_
            have h8 : ((nodeSz l[k] : Nat) : Int) ≤ cur := by omega
            rw [← h2, szR_pos h8]
            omega
          go_wp2_with fail
          refine (szNode_any _ _ _ a3 _ k3 l[k].tags _ cur _ t3 rfl m3 p0 p1).mono ?_
          rintro e w1 ⟨rfl, hb1⟩
          rw [show szR cur (tagsSz l[k].tags) = r from HR.out]
          have hB1 := bel_step hbel hb1
          clear hb1 hbel
          go_wp2
          go_ret
          exact ⟨ret_num HN.out.symm, hB1⟩
      · have e : k = n := by omega
        subst e
        have HN : Hid (szR left (nodesSz l) = cur) := by
          have h3 := HC.out
          have h5 : ((k + sumTo nodeSz l k : Nat) : Int) ≤ left := by omega
          rw [HS.out, szR_pos h5]
          show _ = _
          omega
        go_wp2
        go_ret
        exact ⟨ret_num HN.out.symm, hbel⟩
  · have HN : Hid (szR left (nodesSz l) = -1) := by rw [HS.out]; exact szR_neg (by omega)
    go_enter Tryz.func18, Tryz.ntmps18
    go_wp2
    go_ret
    exact ⟨ret_num HN.out.symm, Bel.refl _⟩

theorem infoNode : (Tryz.prog.info? 58).map (fun i => (i.zero, i.size, i.bytes)) = some (some (.agg #[.int .i64 0, .int .i64 0, .int .i64 0, .slice none 0 0]), 4, 48) := by kernel_rfl
set_option maxHeartbeats 1000000 in
theorem toNodeS_any (a : Option Addr) (n c : Nat) (l : List NodeD) (bs : List Nat) (w : World) (hT : Nodes w a l bs) (hn : l.length = n) (hm : n ≤ 1048576) (hs : ∀ i (h : i < l.length), l[i].tags.length ≤ 1048576) :
    Calls Tryz.prog 28 #[.slice a n c] w fun e w' => ∃ B cs, e = .returned (.slice (some ⟨B, 0, none⟩) n n) ∧ Nodes w' (some ⟨B, 0, none⟩) l cs ∧ Fresh w w' cs ∧ Bel w w' := by
  have Hn : Hid (l.length = n) := hn
  clear hn
  have hmk : ∀ w : World, (Instr.makeSlice 32 (.int .i64 n) (.int .i64 n)).run Tryz.prog w = .ok (.slice (some ⟨w.heap.size, 0, none⟩) n n) (w.alloc (.cells (madeCells #[.int .i64 0, .int .i64 0, .int .i64 0, .slice none 0 0] (n * 4)) 58)) := fun w => by
    obtain ⟨i0, hi, hz0, hz1, hz2⟩ := info_parts infoNode
    have := run_make (P := Tryz.prog) w 32 58 i0 (.agg #[.int .i64 0, .int .i64 0, .int .i64 0, .slice none 0 0]) Tryz.underlying32 hi hz0 .i64 .i64 n n (by omega) (by omega) (by rw [hz2]; omega) (by omega)
    rw [hz1] at this
    exact this
  go_enter Tryz.func28, Tryz.ntmps28
  go_wp2
  go_loopw [4] (fun i wr => ∃ k : Nat, k ≤ n ∧ i = .int .i64 k ∧ (∃ f, Fill 4 NodeE wr w.heap.size n k l f) ∧ Bel w wr) (fun i _ => n - (intOf i).toNat)
  case atStart => exact ⟨0, Nat.zero_le _, rfl, ⟨_, Fill.start _ _ _ _ _ _⟩, bel_alloc (Bel.refl _) _⟩
  case round =>
    obtain ⟨k, hk, rfl, ⟨g, hrow⟩, hbel⟩ := hrel
    by_cases hlt : k < n
    · have hkl : k < l.length := by rw [Hn.out]; exact hlt
      obtain ⟨b, off, f, rfl, hb, hx⟩ := (hT.bel nodeE hbel).out hkl
      obtain ⟨in0, in1, in2, c0, c1, c2, a3, k3, m3, c3, t3⟩ := hx k hkl
      clear hx hT
      go_wp2_with fail
      refine (toNode_any _ _ _ a3 _ k3 l[k].tags _ _ t3 rfl (hs k hkl)).mono ?_
      rintro e w1 ⟨D3, d3, rfl, u3, fr, hb1⟩
      have hr1 := hrow.bel nodeE hb1
      have hB1 : Bel w w1 := bel_step hbel hb1
      obtain ⟨v0, d50⟩ := hr1.there (k * 4) (by omega)
      have f0 := hr1.free (k * 4)
      obtain ⟨v1, d51⟩ := hr1.there (k * 4 + 1) (by omega)
      have f1 := hr1.free (k * 4 + 1)
      obtain ⟨v2, d52⟩ := hr1.there (k * 4 + 2) (by omega)
      have f2 := hr1.free (k * 4 + 2)
      obtain ⟨v3, d53⟩ := hr1.there (k * 4 + 3) (by omega)
      have f3 := hr1.free (k * 4 + 3)
      clear c0 c1 c2 c3 hb hbel
      go_wp2
      go_roundw
      case rel =>
        have S := setRow_in w.heap.size [.int .i64 l[k].id, .int .i64 l[k].x, .int .i64 l[k].y, .slice (some ⟨D3, 0, none⟩) l[k].tags.length l[k].tags.length] w1 (k * 4) (fun j hj => hr1.there _ (by simp at hj; omega))
        have HE : Tags (setRow w1 w.heap.size (k * 4) [.int .i64 l[k].id, .int .i64 l[k].x, .int .i64 l[k].y, .slice (some ⟨D3, 0, none⟩) l[k].tags.length l[k].tags.length]) (some ⟨D3, 0, none⟩) l[k].tags d3 := u3.alike tagE (setRow_alike _ (fun x hx => (fr.new x hx).2) (fun hx => by have h1 := (fr.new _ hx).1; have h2 := hrow.lt; omega))
        exact ⟨k + 1, by omega, by go_num, ⟨_, hrow.put nodeE hb1 hlt Hn.out (fr) [.int .i64 l[k].id, .int .i64 l[k].x, .int .i64 l[k].y, .slice (some ⟨D3, 0, none⟩) l[k].tags.length l[k].tags.length] rfl ⟨in0, in1, in2, S 0 (by simp), S 1 (by simp), S 2 (by simp), _, _, m3, S 3 (by simp), HE⟩⟩, setRow_bel hB1 (Nat.le_refl _) [.int .i64 l[k].id, .int .i64 l[k].x, .int .i64 l[k].y, .slice (some ⟨D3, 0, none⟩) l[k].tags.length l[k].tags.length] (k * 4)⟩
      case measure => simp [intOf]; omega
    · have e : k = n := by omega
      subst e
      go_wp2
      go_ret
      exact ⟨_, _, rfl, hrow.sl Hn.out, hrow.fresh (Nat.le_refl _), hbel⟩

set_option maxHeartbeats 1000000 in
theorem eqNodeS_same (a a' : Option Addr) (n c c' : Nat) (l : List NodeD) (bs bs' : List Nat) (w : World) (hP : Nodes w a l bs) (hP' : Nodes w a' l bs') (hn : l.length = n) (hm : n ≤ 1048576) (hs : ∀ i (h : i < l.length), l[i].tags.length ≤ 1048576) :
    Calls Tryz.prog 40 #[.slice a n c, .slice a' n c'] w fun e w' => e = .returned (.bool true) ∧ Bel w w' := by
  have Hn : Hid (l.length = n) := hn
  clear hn
  go_enter Tryz.func40, Tryz.ntmps40
  go_wp2
  go_loopw [5] (fun i wr => ∃ k : Nat, k ≤ n ∧ i = .int .i64 k ∧ Bel w wr) (fun i _ => n - (intOf i).toNat)
  case atStart => exact ⟨0, Nat.zero_le _, rfl, Bel.refl _⟩
  case round =>
    obtain ⟨k, hk, rfl, hbel⟩ := hrel
    by_cases hlt : k < n
    · have hkl : k < l.length := by rw [Hn.out]; exact hlt
      obtain ⟨b, off, f, rfl, h2, h3⟩ := (hP.bel nodeE hbel).out hkl
      obtain ⟨b', off', f', rfl, h2', h3'⟩ := (hP'.bel nodeE hbel).out hkl
      obtain ⟨in0, in1, in2, c0, c1, c2, a3, k3, m3, c3, t3⟩ := h3 k hkl
      obtain ⟨in0', in1', in2', c0', c1', c2', a3', k3', m3', c3', t3'⟩ := h3' k hkl
      have hR : ∀ w', Bel wr w' → w'.cell? ⟨b, off + k * 4, none⟩ = some (.int .i64 l[k].id) ∧ w'.cell? ⟨b, off + k * 4 + 1, none⟩ = some (.int .i64 l[k].x) ∧ w'.cell? ⟨b, off + k * 4 + 2, none⟩ = some (.int .i64 l[k].y) ∧ w'.cell? ⟨b, off + k * 4 + 3, none⟩ = some (.slice a3 l[k].tags.length k3) ∧ w'.cell? ⟨b', off' + k * 4, none⟩ = some (.int .i64 l[k].id) ∧ w'.cell? ⟨b', off' + k * 4 + 1, none⟩ = some (.int .i64 l[k].x) ∧ w'.cell? ⟨b', off' + k * 4 + 2, none⟩ = some (.int .i64 l[k].y) ∧ w'.cell? ⟨b', off' + k * 4 + 3, none⟩ = some (.slice a3' l[k].tags.length k3') :=
        fun w' h => ⟨bel_cellM h h2 c0, bel_cellM h h2 c1, bel_cellM h h2 c2, bel_cellM h h2 c3, bel_cellM h h2' c0', bel_cellM h h2' c1', bel_cellM h h2' c2', bel_cellM h h2' c3'⟩
      have hlt' : (k : Int) < (n : Int) := by omega
      have g0 : Bel wr wr := Bel.refl _
      have T3 : ∀ w', Bel wr w' → Tags w' a3 l[k].tags (f k) := fun w' h => t3.bel tagE h
      have T3' : ∀ w', Bel wr w' → Tags w' a3' l[k].tags (f' k) := fun w' h => t3'.bel tagE h
      clear h3 h3' c0 c0' c1 c1' c2 c2' c3 c3' h2 h2' hP hP'
      go_wp2
      go_region_held3 (fun w' => Bel wr w') (repeat (first | exact g0 | refine Bel.drew ?_ | assumption | refine bel_then (by assumption) ?_))
        (first
          | (go_at_call 92; refine (eqNode_same _ _ _ a3 _ k3 l[k].tags (f k) a3' k3' (f' k) _ (T3 _ (by assumption)) rfl (T3' _ (by assumption)) (hs k hkl)).mono ?_; rintro e w' ⟨rfl, hbk⟩))
      have hH : Bel wr w' := by assumption
      go_wp2
      go_roundw
      case rel => exact ⟨k + 1, by omega, by go_num, bel_step hbel hH⟩
      case measure => simp [intOf]; omega
    · have e : k = n := by omega
      subst e
      go_wp2
      go_ret
      exact ⟨rfl, hbel⟩

end Go.Proofs.YtmmapkpieimibaaGreat
