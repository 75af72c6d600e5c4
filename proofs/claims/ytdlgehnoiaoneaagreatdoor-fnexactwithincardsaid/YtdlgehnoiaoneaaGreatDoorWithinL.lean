/-
  The walk of the law: for every graph, every number and every limit Within answers as its model does; the graph that was handed in stays as it was; the answer shares no memory with it nor with the answer of another call.
-/
import Derived.Test.YtdlgehnoiaoneaaGreatDoorWinI
import Derived.Test.YtdlgehnoiaoneaaGreatDoorWinS
import Derived.Test.YtdlgehnoiaoneaaGreatDoorMarkA
import Derived.Test.YtdlgehnoiaoneaaGreatDoorGT
import Derived.Test.YtdlgehnoiaoneaaGreatDoorGU
import Derived.Deep.RegionHeld3
namespace Go.Proofs.YtdlgehnoiaoneaaGreatDoor
open Go.RowKit

set_option maxRecDepth 100000 in
set_option maxHeartbeats 4000000 in
theorem lawFnExactWithin_any (v : Value) (m : GraphD) (bs : List Nat) (x lim : Int) (w : World) (hT : Winds w) (hV : GphV w v m bs) (hN : GphN m) :
  Calls Tryz.prog 3 #[v, .int .i64 x, .int .i64 lim] w fun e w' => e = .returned (.bool true) ∧ Bel w w' := by
 have hV' := hV
 obtain ⟨a0, c0, a1, c1, a2, c2, b0, b1, b2, _, rfl, _, _, _⟩ := hV
 obtain ⟨n0, hn0⟩ : ∃ n, m.places.length = n := ⟨_, rfl⟩
 obtain ⟨n1, hn1⟩ : ∃ n, m.roads.length = n := ⟨_, rfl⟩
 obtain ⟨n2, hn2⟩ : ∃ n, m.bans.length = n := ⟨_, rfl⟩
 rw [hn0, hn1, hn2] at hV' ⊢
 clear hn0 hn1 hn2
 have X0 : Blk (w.alloc (.cells #[.slice a0 n0 c0, .slice a1 n1 c1, .slice a2 n2 c2] 26)) w.heap.size [.slice a0 n0 c0, .slice a1 n1 c1, .slice a2 n2 c2] := Blk.new w [.slice a0 n0 c0, .slice a1 n1 c1, .slice a2 n2 c2] _
 have S0 : Bel w (w.alloc (.cells #[.slice a0 n0 c0, .slice a1 n1 c1, .slice a2 n2 c2] 26)) := bel_alloc (Bel.refl _) _
 by_cases hf : ((graphSz m : Nat) : Int) ≤ 1048576
 ·have hL := gphQ_of (g := m) (by omega)
  have hs : szR 1048576 (graphSz m) = 1048576 - graphSz m := szR_pos hf
  obtain ⟨r, Hr⟩ : ∃ r, Hid (szR 1048576 (graphSz m) = r) := ⟨_, (rfl : szR 1048576 (graphSz m) = _)⟩
  have hr0 : 0 ≤ r := by rw [← Hr.out, hs]; omega
  have HL : Hid (GphQ m) := hL
  have HI : Hid (∀ i, i < (rcQ m x).length → In64 (iAt (rcQ m x) i)) := fun i hi => by rw [iAt_eq hi]; exact rcQ_in m x _ (List.getElem_mem hi)
  have HRl : Hid ((rcQ m x).length ≤ 8000) := rcQ_len m x
  obtain ⟨R, HQ⟩ : ∃ R, Hid (rcQ m x = R) := ⟨_, (rfl : rcQ m x = _)⟩
  rw [HQ.out] at HI HRl
  clear hs hf hL
  go_enter Tryz.func3, Tryz.ntmps3
  go_wp2_with fail
  refine (szGraph_v _ m bs _ _ (hV'.bel S0) hN (by omega) (by omega)).mono ?_
  rintro e w1 ⟨rfl, hb1⟩
  rw [Hr.out]
  have S1 := bel_step S0 hb1
  have X1 := X0.bel hb1
  have x10 : w1.cell? ⟨w.heap.size, 0, none⟩ = some (.slice a0 n0 c0) := X1.cell 0 (by simp)
  have x11 : w1.cell? ⟨w.heap.size, 1, none⟩ = some (.slice a1 n1 c1) := X1.cell 1 (by simp)
  have x12 : w1.cell? ⟨w.heap.size, 2, none⟩ = some (.slice a2 n2 c2) := X1.cell 2 (by simp)
  go_wp2_with fail
  refine (toGraph_v _ m bs _ (hV'.bel S1) HL.out).mono ?_
  rintro e w2 ⟨v2, d2, rfl, V2, _, hb2⟩
  have S2 := bel_step S1 hb2
  have X2 := X1.bel hb2
  clear X1
  have x20 : w2.cell? ⟨w.heap.size, 0, none⟩ = some (.slice a0 n0 c0) := X2.cell 0 (by simp)
  have x21 : w2.cell? ⟨w.heap.size, 1, none⟩ = some (.slice a1 n1 c1) := X2.cell 1 (by simp)
  have x22 : w2.cell? ⟨w.heap.size, 2, none⟩ = some (.slice a2 n2 c2) := X2.cell 2 (by simp)
  go_wp2_with fail
  refine (specWithin_any _ m d2 x lim _ V2 HL.out).mono ?_
  rintro e w3 ⟨v3, l3, rfl, O3, Q3, hb3⟩
  rw [HQ.out] at O3 Q3
  have hok : ∀ d ∈ arD (iAt R) l3, arP d := arD_ok (fun i hi => ((Q3.mem i).1 hi).1) HRl.out HI.out
  have hlen : (arD (iAt R) l3).length ≤ 8000 := by rw [arD_len]; exact Nat.le_trans Q3.len HRl.out
  obtain ⟨L, HLL⟩ : ∃ L, Hid (arD (iAt R) l3 = L) := ⟨_, (rfl : arD (iAt R) l3 = _)⟩
  rw [HLL.out] at O3 hok hlen
  obtain ⟨a3, c3, e3, rfl, I3, M3⟩ := O3.out hok
  have B3 := M3.new
  have HOk : Hid (∀ d ∈ L, arP d) := hok
  have HQ3 : Hid (WI (iAt R) lim R.length l3) := Q3
  clear hok Q3 M3
  have S3 := bel_step S2 hb3
  have X3 := X2.bel hb3
  clear X2 O3 V2
  have x30 : w3.cell? ⟨w.heap.size, 0, none⟩ = some (.slice a0 n0 c0) := X3.cell 0 (by simp)
  have x31 : w3.cell? ⟨w.heap.size, 1, none⟩ = some (.slice a1 n1 c1) := X3.cell 1 (by simp)
  have x32 : w3.cell? ⟨w.heap.size, 2, none⟩ = some (.slice a2 n2 c2) := X3.cell 2 (by simp)
  go_wp2_with fail
  refine (toGraph_v _ m bs _ (hV'.bel S3) HL.out).mono ?_
  rintro e w4 ⟨v4, d4, rfl, V4, F4, hb4⟩
  have S4 := bel_step S3 hb4
  have X4 := X3.bel hb4
  have X3lt : Hid (w.heap.size < w3.heap.size) := X3.lt
  clear X3
  have x40 : w4.cell? ⟨w.heap.size, 0, none⟩ = some (.slice a0 n0 c0) := X4.cell 0 (by simp)
  have x41 : w4.cell? ⟨w.heap.size, 1, none⟩ = some (.slice a1 n1 c1) := X4.cell 1 (by simp)
  have x42 : w4.cell? ⟨w.heap.size, 2, none⟩ = some (.slice a2 n2 c2) := X4.cell 2 (by simp)
  obtain ⟨z0, y0, z1, y1, z2, y2, q0, q1, q2, _, rfl, _⟩ := id V4
  obtain ⟨s0, hs0⟩ : ∃ n, m.places.length = n := ⟨_, rfl⟩
  obtain ⟨s1, hs1⟩ : ∃ n, m.roads.length = n := ⟨_, rfl⟩
  obtain ⟨s2, hs2⟩ : ∃ n, m.bans.length = n := ⟨_, rfl⟩
  rw [hs0, hs1, hs2] at V4 ⊢
  clear hs0 hs1 hs2
  have hbA : Bel w4 (w4.alloc (.cells #[.slice z0 s0 y0, .slice z1 s1 y1, .slice z2 s2 y2] 34)) := bel_alloc (Bel.refl _) _
  have Y4 : Blk (w4.alloc (.cells #[.slice z0 s0 y0, .slice z1 s1 y1, .slice z2 s2 y2] 34)) w4.heap.size [.slice z0 s0 y0, .slice z1 s1 y1, .slice z2 s2 y2] := Blk.new w4 [.slice z0 s0 y0, .slice z1 s1 y1, .slice z2 s2 y2] _
  have hA4 : (w4.alloc (.cells #[.slice z0 s0 y0, .slice z1 s1 y1, .slice z2 s2 y2] 34)).heap.size = w4.heap.size + 1 := by simp
  have V4' := V4.bel hbA
  go_wp2_with fail
  refine (within_any _ m d4 x lim _ (hT.bel (bel_step S4 hbA)) V4' HL.out).mono ?_
  rintro e w5 ⟨v5, l5, rfl, O5, Q5, hb5⟩
  rw [HQ.out] at O5 Q5
  obtain rfl := HQ3.out.one Q5
  rw [HLL.out] at O5
  obtain ⟨a5, c5, e5, rfl, I5, M5⟩ := O5.out HOk.out
  have B5 := M5.new
  have R5 := M5.free
  clear Q5 M5
  rw [hA4] at B5
  have h45 := bel_step hbA hb5
  have S5 := bel_step S4 h45
  have X5 := X4.bel h45
  have Y5 := Y4.bel hb5
  have V5 := V4'.bel hb5
  have I53 := (I3.bel banE hb4).bel banE h45
  have F5 := F4.bel h45
  have F4n : Hid (∀ x ∈ d4, w3.heap.size ≤ x ∧ x < w4.heap.size) := F4.new
  clear X4 Y4 V4' V4 hb5 hbA O5 hA4
  go_wp2_with fail
  refine (eqArrivalS_same _ _ _ _ _ L _ _ _ I5 I53 rfl (by omega)).mono ?_
  rintro e w6 ⟨rfl, hb6⟩
  have S6 := bel_step S5 hb6
  have X6 := X5.bel hb6
  have Y6 := Y5.bel hb6
  have V6 := V5.bel hb6
  have hR : ∀ w', Bel w6 w' → w'.cell? ⟨w.heap.size, 0, none⟩ = some (.slice a0 n0 c0) ∧ w'.cell? ⟨w.heap.size, 1, none⟩ = some (.slice a1 n1 c1) ∧ w'.cell? ⟨w.heap.size, 2, none⟩ = some (.slice a2 n2 c2) ∧ w'.cell? ⟨w4.heap.size, 0, none⟩ = some (.slice z0 s0 y0) ∧ w'.cell? ⟨w4.heap.size, 1, none⟩ = some (.slice z1 s1 y1) ∧ w'.cell? ⟨w4.heap.size, 2, none⟩ = some (.slice z2 s2 y2) :=
   fun w' h => ⟨(X6.bel h).cell 0 (by simp), (X6.bel h).cell 1 (by simp), (X6.bel h).cell 2 (by simp), (Y6.bel h).cell 0 (by simp), (Y6.bel h).cell 1 (by simp), (Y6.bel h).cell 2 (by simp)⟩
  have g0 : Bel w6 w6 := Bel.refl _
  have hM5 : ∀ w', Bel w6 w' → GphV w' (.agg #[.slice a0 n0 c0, .slice a1 n1 c1, .slice a2 n2 c2]) m bs := fun w' h => hV'.bel (bel_step S6 h)
  have hX5 : ∀ w', Bel w6 w' → GphV w' (.agg #[.slice z0 s0 y0, .slice z1 s1 y1, .slice z2 s2 y2]) m d4 := fun w' h => V6.bel h
  have K : Hid (Blk w6 w.heap.size [.slice a0 n0 c0, .slice a1 n1 c1, .slice a2 n2 c2] ∧ Blk w6 w4.heap.size [.slice z0 s0 y0, .slice z1 s1 y1, .slice z2 s2 y2] ∧ GphV w6 (.agg #[.slice z0 s0 y0, .slice z1 s1 y1, .slice z2 s2 y2]) m d4 ∧ BanL w6 a3 L e3 ∧ BanL w6 a5 L e5 ∧ (∀ x ∈ e5, ∀ j, w6.frozen? ⟨x, j, none⟩ = false) ∧ Fresh w3 w6 d4) :=
   ⟨X6, Y6, V6, I53.bel banE hb6, I5.bel banE hb6, fun x hx j => by rw [hb6.out.frozen (p := ⟨x, j, none⟩) (B5 x hx).2]; exact R5 x hx j, F5.bel hb6⟩
  clear X5 Y5 V5 X6 Y6 V6 I3 I5 I53 F4 F5 R5
  go_wp2
  go_region_held3 (fun w' => Bel w6 w') (with_reducible (repeat (first | assumption | exact g0 | refine Bel.drew ?_ | refine bel_then (by assumption) ?_)))
   (first
    | (go_at_call 6; refine (toGraph_v _ m bs _ (hM5 _ (by assumption)) HL.out).mono ?_; rintro e w7 ⟨v7, d7, rfl, V7, _, hb7⟩)
    | (go_at_call 9; refine (eqGraph_v _ _ m d4 d7 _ (hX5 _ (by assumption)) V7 HL.out).mono ?_; rintro e w8 ⟨rfl, hb8⟩))
  have hH : Bel w6 w8 := by assumption
  obtain ⟨X6, Y6, V6, I63, I65, R6, F6⟩ := K.out
  have S8 := bel_step S6 hH
  have X8 := X6.bel hH
  have Y8 := Y6.bel hH
  have F8 := F6.bel hH
  have V8 := V6.bel hH
  have I83 := I63.bel banE hH
  have I85 := I65.bel banE hH
  have z6 : w4.heap.size < w6.heap.size := Y6.lt
  have z8 := Nat.lt_of_lt_of_le z6 hH.out.size
  have zz : w.heap.size < w3.heap.size := (show w.heap.size < w3.heap.size from by have := X3lt.out; omega)
  have z34 := hb4.out.size
  have R8 : ∀ x ∈ e5, ∀ j, w8.frozen? ⟨x, j, none⟩ = false := fun x hx j => by rw [hH.out.frozen (p := ⟨x, j, none⟩) (I65.lt banE x hx)]; exact R6 x hx j
  have D3 : ∀ x ∈ e3, x ∉ d4 := fun x hx hy => by have := (B3 x hx).2; have := (F4n.out x hy).1; omega
  have D5 : ∀ x ∈ e5, x ∉ d4 := fun x hx hy => by have := (B5 x hx).1; have := (F4n.out x hy).2; omega
  have D35 : ∀ x ∈ e3, x ∉ e5 := fun x hx hy => by have := (B3 x hx).2; have := (B5 x hy).1; omega
  have NX : w.heap.size ∉ d4 := fun h => by have := (F4n.out _ h).1; omega
  have NX5 : w.heap.size ∉ e5 := fun h => by have := (B5 _ h).1; omega
  have hd4 : ∀ x ∈ d4, w.heap.size ≤ x := fun x hx => by have := (F4n.out x hx).1; omega
  have he5 : ∀ x ∈ e5, w.heap.size ≤ x := fun x hx => by have := (B5 x hx).1; omega
  have y80 : w8.cell? ⟨w4.heap.size, 0, none⟩ = some (.slice z0 s0 y0) := Y8.cell 0 (by simp)
  have y81 : w8.cell? ⟨w4.heap.size, 1, none⟩ = some (.slice z1 s1 y1) := Y8.cell 1 (by simp)
  have y82 : w8.cell? ⟨w4.heap.size, 2, none⟩ = some (.slice z2 s2 y2) := Y8.cell 2 (by simp)
  clear X6 Y6 V6 I63 I65 R6 F6 Y8 hR hM5 hX5
  go_wp2_with fail
  refine (markGraph_o _ m d4 _ V8 HL.out F8.free F8.nd).mono ?_
  rintro e w9 ⟨kE, rfl, O9⟩
  have hk0 : ¬ ((kE : Nat) : Int) < 0 := by omega
  have I93 := I83.alike banE (O9.alike (I83.lt banE) D3)
  have I95 := I85.alike banE (O9.alike (I85.lt banE) D5)
  have R9 : ∀ x ∈ e5, ∀ j, w9.frozen? ⟨x, j, none⟩ = false := fun x hx j => by rw [OnlF.frozen O9 (I85.lt banE x hx) (D5 x hx)]; exact R8 x hx j
  have S9 : Bel w w9 := Onl.to_bel S8 O9 hd4
  have x90 : w9.cell? ⟨w.heap.size, 0, none⟩ = some (.slice a0 n0 c0) := by rw [OnlF.cell O9 X8.lt NX]; exact X8.cell 0 (by simp)
  have x91 : w9.cell? ⟨w.heap.size, 1, none⟩ = some (.slice a1 n1 c1) := by rw [OnlF.cell O9 X8.lt NX]; exact X8.cell 1 (by simp)
  have x92 : w9.cell? ⟨w.heap.size, 2, none⟩ = some (.slice a2 n2 c2) := by rw [OnlF.cell O9 X8.lt NX]; exact X8.cell 2 (by simp)
  have z9 := Nat.lt_of_lt_of_le X8.lt O9.size
  clear y80 y81 y82 I83 I85 R8 V8 F8 X8 O9
  go_wp2_with fail
  refine (eqArrivalS_same _ _ _ _ _ L _ _ _ I95 I93 rfl (by omega)).mono ?_
  rintro e w10 ⟨rfl, hb10⟩
  have I103 := I93.bel banE hb10
  have I105 := I95.bel banE hb10
  have R10 : ∀ x ∈ e5, ∀ j, w10.frozen? ⟨x, j, none⟩ = false := fun x hx j => by rw [hb10.out.frozen (p := ⟨x, j, none⟩) (I95.lt banE x hx)]; exact R9 x hx j
  have S10 := bel_step S9 hb10
  have x100 := bel_cellM hb10 z9 x90
  have x101 := bel_cellM hb10 z9 x91
  have x102 := bel_cellM hb10 z9 x92
  have z10 := bel_lt hb10 z9
  clear x90 x91 x92
  go_wp2_with fail
  refine (markArrivalS_x a5 _ c5 L e5 1 _ I105 R10 rfl (by omega) (by omega) (by omega)).mono ?_
  rintro e w11 ⟨rfl, M11, O11⟩
  have I113 := I103.alike banE (O11.alike (I103.lt banE) D35)
  have S11 : Bel w w11 := Onl.to_bel S10 O11 he5
  have x110 := (OnlF.cell O11 (o := 0) z10 NX5).trans x100
  have x111 := (OnlF.cell O11 (o := 1) z10 NX5).trans x101
  have x112 := (OnlF.cell O11 (o := 2) z10 NX5).trans x102
  have hk1 : ¬ ((1 + 2 * L.length : Nat) : Int) < 0 := by omega
  have z11 := Nat.lt_of_lt_of_le z10 O11.size
  clear x100 x101 x102 I103 I105 R10 O11 I93 I95 R9
  go_wp2_with fail
  refine (heldArrivalS_x a5 _ c5 e5 1 _ M11 (by omega) (by omega) (by omega)).mono ?_
  rintro e w12 ⟨rfl, hb12⟩
  have S12 := bel_step S11 hb12
  have I123 := I113.bel banE hb12
  have M12 := M11.bel hb12
  have x120 := bel_cellM hb12 z11 x110
  have x121 := bel_cellM hb12 z11 x111
  have x122 := bel_cellM hb12 z11 x112
  have z12 := bel_lt hb12 z11
  clear x110 x111 x112 I113 M11 hb12
  go_wp2_with fail
  refine (toGraph_v _ m bs _ (hV'.bel S12) HL.out).mono ?_
  rintro e w13 ⟨v13, d13, rfl, V13, _, hb13⟩
  go_wp2_with fail
  refine (within_any _ m d13 x lim _ (hT.bel (bel_step S12 hb13)) V13 HL.out).mono ?_
  rintro e w14 ⟨v14, l14, rfl, O14, Q14, hb14⟩
  rw [HQ.out] at O14 Q14
  obtain rfl := HQ3.out.one Q14
  rw [HLL.out] at O14
  obtain ⟨a14, c14, e14, rfl, I14, _⟩ := O14.out HOk.out
  have h14 := bel_step hb13 hb14
  have I143 := I123.bel banE h14
  clear Q14
  clear O14 V13 hb13 hb14
  go_wp2_with fail
  refine (eqArrivalS_same _ _ _ _ _ L _ _ _ I14 I143 rfl (by omega)).mono ?_
  rintro e w15 ⟨rfl, hb15⟩
  have h15 := bel_step h14 hb15
  have M15 := M12.bel h15
  have S15 := bel_step S12 h15
  clear I14 I143 M12
  go_wp2_with fail
  refine (heldArrivalS_x a5 _ c5 e5 1 _ M15 (by omega) (by omega) (by omega)).mono ?_
  rintro e w16 ⟨rfl, hb16⟩
  have S16 := bel_step S15 hb16
  clear M15
  go_wp2
  go_ret
  exact ⟨rfl, S16⟩
 ·obtain ⟨r, Hr⟩ : ∃ r, Hid (szR 1048576 (graphSz m) = r) := ⟨_, (rfl : szR 1048576 (graphSz m) = _)⟩
  have hr0 : r = -1 := by rw [← Hr.out]; exact szR_neg hf
  subst hr0
  clear hf
  go_enter Tryz.func3, Tryz.ntmps3
  go_wp2_with fail
  refine (szGraph_v _ m bs _ _ (hV'.bel S0) hN (by omega) (by omega)).mono ?_
  rintro e w1 ⟨rfl, hb1⟩
  rw [Hr.out]
  go_wp2
  go_ret
  exact ⟨rfl, bel_step S0 hb1⟩

end Go.Proofs.YtdlgehnoiaoneaaGreatDoor
