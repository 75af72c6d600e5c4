/-
  The walk of the law: for every graph and every fleet FleetOk answers as its model does, and what was handed in stays as it was.
-/
import Derived.Test.YtgakdeaniojleaaFltI
import Derived.Test.YtgakdeaniojleaaGphL
import Derived.Test.YtgakdeaniojleaaDFleet
import Derived.Deep.RegionHeld3
namespace Go.Proofs.Ytgakdeaniojleaa
open Go.RowKit

theorem szFleetV (v : Value) (f : FleetD) (bs : List Nat) (left : Int) (w : World) (hV : FltV w v f bs) (hm : f.tasks.length ≤ maxLen) (h0 : 0 ≤ left) (h1 : left ≤ 1048576) :
    Calls Try.prog 5 #[v, .int .i64 left] w fun e w' => e = .returned (.int .i64 (szR left f.tasks.length)) ∧ Bel w w' := by
  obtain ⟨a, c, rfl, hT⟩ := hV
  unfold maxLen at hm
  exact szFleet_any _ _ _ _ a _ c f.tasks bs left w hT rfl (by omega) h0 h1
theorem toFleetV (v : Value) (f : FleetD) (bs : List Nat) (w : World) (hV : FltV w v f bs) (hm : f.tasks.length ≤ 1048576) :
    Calls Try.prog 8 #[v] w fun e w' => ∃ B d, e = .returned (fltV f (some ⟨B, 0, none⟩) f.tasks.length f.tasks.length) ∧ TaskL w' (some ⟨B, 0, none⟩) f.tasks d ∧ Bel w w' := by
  obtain ⟨a, c, rfl, hT⟩ := hV
  refine (toFleet_any _ _ _ _ a _ c f.tasks bs w hT rfl hm).mono ?_
  rintro e w' ⟨B, d, h1, h2, _, h3⟩
  exact ⟨B, d, h1, h2, h3⟩

set_option maxRecDepth 100000 in
set_option maxHeartbeats 2000000 in
theorem lawFnExactFleetOk_any (v : Value) (m : GraphD) (bs : List Nat) (v1 : Value) (f : FleetD) (bf : List Nat) (w : World) (hV : GphV w v m bs) (hN : GphN m) (hF : FltV w v1 f bf) (hfm : f.tasks.length ≤ maxLen) :
    Calls Try.prog 3 #[v, v1] w fun e w' => e = .returned (.bool true) ∧ Bel w w' := by
  have hV' := hV
  obtain ⟨a0, c0, a1, c1, a2, c2, b0, b1, b2, _, rfl, _, _, _⟩ := hV
  have hF' := hF
  obtain ⟨fa, fc, rfl, _⟩ := hF
  obtain ⟨n0, hn0⟩ : ∃ n, m.places.length = n := ⟨_, rfl⟩
  obtain ⟨n1, hn1⟩ : ∃ n, m.roads.length = n := ⟨_, rfl⟩
  obtain ⟨n2, hn2⟩ : ∃ n, m.bans.length = n := ⟨_, rfl⟩
  obtain ⟨nt, Hnt⟩ : ∃ n, Hid (f.tasks.length = n) := ⟨_, (rfl : f.tasks.length = _)⟩
  rw [hn0, hn1, hn2] at hV' ⊢
  rw [Hnt.out] at hF' ⊢
  clear hn0 hn1 hn2
  obtain ⟨fd, Hfd⟩ : ∃ x, Hid (f.depot = x) := ⟨_, (rfl : f.depot = _)⟩
  obtain ⟨fs, Hfs⟩ : ∃ x, Hid (f.start = x) := ⟨_, (rfl : f.start = _)⟩
  obtain ⟨fv, Hfv⟩ : ∃ x, Hid (f.veh = x) := ⟨_, (rfl : f.veh = _)⟩
  obtain ⟨fr, Hfr⟩ : ∃ x, Hid (f.room = x) := ⟨_, (rfl : f.room = _)⟩

  have S0 : Bel w ((w.alloc (.cells #[.slice a0 n0 c0, .slice a1 n1 c1, .slice a2 n2 c2] 26)).alloc (.cells #[.int .i64 f.depot, .int .i64 f.start, .int .i64 f.veh, .int .i64 f.room, .slice fa nt fc] 29)) := bel_alloc (bel_alloc (Bel.refl _) _) _
  have X0 : Blk ((w.alloc (.cells #[.slice a0 n0 c0, .slice a1 n1 c1, .slice a2 n2 c2] 26)).alloc (.cells #[.int .i64 f.depot, .int .i64 f.start, .int .i64 f.veh, .int .i64 f.room, .slice fa nt fc] 29)) w.heap.size [.slice a0 n0 c0, .slice a1 n1 c1, .slice a2 n2 c2] := (Blk.new w [.slice a0 n0 c0, .slice a1 n1 c1, .slice a2 n2 c2] _).bel (bel_alloc (Bel.refl _) _)
  have Y0 : Blk ((w.alloc (.cells #[.slice a0 n0 c0, .slice a1 n1 c1, .slice a2 n2 c2] 26)).alloc (.cells #[.int .i64 f.depot, .int .i64 f.start, .int .i64 f.veh, .int .i64 f.room, .slice fa nt fc] 29)) (w.heap.size + 1) [.int .i64 f.depot, .int .i64 f.start, .int .i64 f.veh, .int .i64 f.room, .slice fa nt fc] := Blk.new1 w _ [.int .i64 f.depot, .int .i64 f.start, .int .i64 f.veh, .int .i64 f.room, .slice fa nt fc] _
  obtain ⟨r, Hr⟩ : ∃ r, Hid (szR 1048576 (graphSz m) = r) := ⟨_, (rfl : szR 1048576 (graphSz m) = _)⟩
  have hrb : r ≤ 1048576 := by rw [← Hr.out]; exact (szR_bd (by omega)).1
  by_cases hf : ((graphSz m : Nat) : Int) ≤ 1048576
  rotate_left
  · have hr0 : r = -1 := by rw [← Hr.out]; exact szR_neg hf
    subst hr0
    clear hf
    go_enter Try.func3, Try.ntmps3
    go_wp2_with fail
    refine (szGraph_v _ m bs _ _ (hV'.bel S0) hN (by omega) (by omega)).mono ?_
    rintro e w1 ⟨rfl, hb1⟩
    rw [Hr.out]
    go_wp2
    go_ret
    exact ⟨rfl, bel_step S0 hb1⟩
  have hL := gphQ_of (g := m) (by omega)
  have hs : szR 1048576 (graphSz m) = 1048576 - graphSz m := szR_pos hf
  have hr0 : 0 ≤ r := by rw [← Hr.out, hs]; omega
  have HL : Hid (GphQ m) := hL
  obtain ⟨r1, Hr1⟩ : ∃ r1, Hid (szR r nt = r1) := ⟨_, (rfl : szR r nt = _)⟩
  clear hs hf hL
  by_cases hf : (nt : Int) ≤ r
  rotate_left
  · have hr1 : r1 = -1 := by rw [← Hr1.out]; exact szR_neg hf
    subst hr1
    clear hf
    go_enter Try.func3, Try.ntmps3
    go_wp2_with fail
    refine (szGraph_v _ m bs _ _ (hV'.bel S0) hN (by omega) (by omega)).mono ?_
    rintro e w1 ⟨rfl, hb1⟩
    rw [Hr.out]
    have S1 := bel_step S0 hb1
    have Y1 := Y0.bel hb1
    have y10 : w1.cell? ⟨w.heap.size + 1, 0, none⟩ = some (.int .i64 f.depot) := Y1.cell 0 (by simp)
    have y11 : w1.cell? ⟨w.heap.size + 1, 1, none⟩ = some (.int .i64 f.start) := Y1.cell 1 (by simp)
    have y12 : w1.cell? ⟨w.heap.size + 1, 2, none⟩ = some (.int .i64 f.veh) := Y1.cell 2 (by simp)
    have y13 : w1.cell? ⟨w.heap.size + 1, 3, none⟩ = some (.int .i64 f.room) := Y1.cell 3 (by simp)
    have y14 : w1.cell? ⟨w.heap.size + 1, 4, none⟩ = some (.slice fa nt fc) := Y1.cell 4 (by simp)
    go_wp2_with fail
    refine (szFleetV _ f bf _ _ (hF'.bel S1) hfm (by omega) (by omega)).mono ?_
    rintro e w2 ⟨rfl, hb2⟩
    rw [Hnt.out, Hr1.out]
    go_wp2
    go_ret
    exact ⟨rfl, bel_step S1 hb2⟩
  have hr1 : 0 ≤ r1 := by rw [← Hr1.out, szR_pos hf]; omega
  have hntm : nt ≤ 1048576 := by omega
  have Hntm : Hid (f.tasks.length ≤ 1048576) := (by rw [Hnt.out]; exact hntm : f.tasks.length ≤ 1048576)
  clear hf
  obtain ⟨R, HR⟩ : ∃ R, Hid (fleetB m f = R) := ⟨_, (rfl : fleetB m f = _)⟩
  have hRR : (R != R) = false := by cases R <;> rfl
  go_enter Try.func3, Try.ntmps3
  go_wp2_with fail
  refine (szGraph_v _ m bs _ _ (hV'.bel S0) hN (by omega) (by omega)).mono ?_
  rintro e w1 ⟨rfl, hb1⟩
  rw [Hr.out]
  have S1 := bel_step S0 hb1
  have X1 := X0.bel hb1
  have Y1 := Y0.bel hb1
  have y10 : w1.cell? ⟨w.heap.size + 1, 0, none⟩ = some (.int .i64 f.depot) := Y1.cell 0 (by simp)
  have y11 : w1.cell? ⟨w.heap.size + 1, 1, none⟩ = some (.int .i64 f.start) := Y1.cell 1 (by simp)
  have y12 : w1.cell? ⟨w.heap.size + 1, 2, none⟩ = some (.int .i64 f.veh) := Y1.cell 2 (by simp)
  have y13 : w1.cell? ⟨w.heap.size + 1, 3, none⟩ = some (.int .i64 f.room) := Y1.cell 3 (by simp)
  have y14 : w1.cell? ⟨w.heap.size + 1, 4, none⟩ = some (.slice fa nt fc) := Y1.cell 4 (by simp)
  go_wp2_with fail
  refine (szFleetV _ f bf _ _ (hF'.bel S1) hfm (by omega) (by omega)).mono ?_
  rintro e w2 ⟨rfl, hb2⟩
  rw [Hnt.out, Hr1.out]
  have S2 := bel_step S1 hb2
  have X2 := X1.bel hb2
  have Y2 := Y1.bel hb2
  clear X1 Y1 y10 y11 y12 y13 y14
  have hR2 : ∀ w', Bel w2 w' → w'.cell? ⟨w.heap.size, 0, none⟩ = some (.slice a0 n0 c0) ∧ w'.cell? ⟨w.heap.size, 1, none⟩ = some (.slice a1 n1 c1) ∧ w'.cell? ⟨w.heap.size, 2, none⟩ = some (.slice a2 n2 c2) ∧ w'.cell? ⟨w.heap.size + 1, 0, none⟩ = some (.int .i64 f.depot) ∧ w'.cell? ⟨w.heap.size + 1, 1, none⟩ = some (.int .i64 f.start) ∧ w'.cell? ⟨w.heap.size + 1, 2, none⟩ = some (.int .i64 f.veh) ∧ w'.cell? ⟨w.heap.size + 1, 3, none⟩ = some (.int .i64 f.room) ∧ w'.cell? ⟨w.heap.size + 1, 4, none⟩ = some (.slice fa nt fc) := fun w' h => ⟨(X2.bel h).cell 0 (by simp), (X2.bel h).cell 1 (by simp), (X2.bel h).cell 2 (by simp), (Y2.bel h).cell 0 (by simp), (Y2.bel h).cell 1 (by simp), (Y2.bel h).cell 2 (by simp), (Y2.bel h).cell 3 (by simp), (Y2.bel h).cell 4 (by simp)⟩
  have g2 : Bel w2 w2 := Bel.refl _
  have hM2 : ∀ w', Bel w2 w' → GphV w' (.agg #[.slice a0 n0 c0, .slice a1 n1 c1, .slice a2 n2 c2]) m bs := fun w' h => hV'.bel (bel_step S2 h)
  have hF2 : ∀ w', Bel w2 w' → FltV w' (fltV f fa nt fc) f bf := fun w' h => hF'.bel (bel_step S2 h)
  go_upto_region 8 with fail
  go_region_held3 (fun w' => Bel w2 w') (with_reducible (repeat (first | assumption | exact g2 | refine Bel.drew ?_ | refine bel_then (by assumption) ?_)))
    (first
      | (go_at_call 7; refine (toGraph_v _ m bs _ (hM2 _ (by assumption)) HL.out).mono ?_; rintro e w3 ⟨v3, d3, rfl, V3, _, hb3⟩)
      | (go_at_call 8; refine (toFleetV _ f bf _ (hF2 _ (by assumption)) Hntm.out).mono ?_; rintro e w4 ⟨B4, d4, rfl, T4, hb4⟩; rw [Hnt.out])
      | (go_at_call 6; refine (specFleetOk_any _ m d3 f _ nt nt d4 _ (V3.bel (by assumption)) HL.out T4 Hnt.out hntm).mono ?_; rintro e w5 ⟨rfl, hb5⟩; rw [HR.out]))
  have hH5 : Bel w2 w5 := by assumption
  have S5 := bel_step S2 hH5
  have X5 := X2.bel hH5
  have Y5 := Y2.bel hH5
  clear hR2 hM2 hF2 X2 Y2 V3 T4
  have x50 : w5.cell? ⟨w.heap.size, 0, none⟩ = some (.slice a0 n0 c0) := X5.cell 0 (by simp)
  have x51 : w5.cell? ⟨w.heap.size, 1, none⟩ = some (.slice a1 n1 c1) := X5.cell 1 (by simp)
  have x52 : w5.cell? ⟨w.heap.size, 2, none⟩ = some (.slice a2 n2 c2) := X5.cell 2 (by simp)
  have y50 : w5.cell? ⟨w.heap.size + 1, 0, none⟩ = some (.int .i64 f.depot) := Y5.cell 0 (by simp)
  have y51 : w5.cell? ⟨w.heap.size + 1, 1, none⟩ = some (.int .i64 f.start) := Y5.cell 1 (by simp)
  have y52 : w5.cell? ⟨w.heap.size + 1, 2, none⟩ = some (.int .i64 f.veh) := Y5.cell 2 (by simp)
  have y53 : w5.cell? ⟨w.heap.size + 1, 3, none⟩ = some (.int .i64 f.room) := Y5.cell 3 (by simp)
  have y54 : w5.cell? ⟨w.heap.size + 1, 4, none⟩ = some (.slice fa nt fc) := Y5.cell 4 (by simp)
  have xl5 := X5.lt
  have yl5 := Y5.lt
  go_wp2_with fail
  refine (toGraph_v _ m bs _ (hV'.bel S5) HL.out).mono ?_
  rintro e w6 ⟨v6, d6, rfl, V6, _, hb6⟩
  have S6 := bel_step S5 hb6
  have X6 := X5.bel hb6
  have Y6 := Y5.bel hb6
  obtain ⟨z0, y0, z1, y1, z2, y2, q0, q1, q2, _, rfl, _⟩ := id V6
  obtain ⟨s0, hs0⟩ : ∃ n, m.places.length = n := ⟨_, rfl⟩
  obtain ⟨s1, hs1⟩ : ∃ n, m.roads.length = n := ⟨_, rfl⟩
  obtain ⟨s2, hs2⟩ : ∃ n, m.bans.length = n := ⟨_, rfl⟩
  rw [hs0, hs1, hs2] at V6 ⊢
  clear hs0 hs1 hs2 X5 Y5 x50 x51 x52 y50 y51 y52 y53 y54 xl5 yl5
  have hbA : Bel w6 (w6.alloc (.cells #[.slice z0 s0 y0, .slice z1 s1 y1, .slice z2 s2 y2] 37)) := bel_alloc (Bel.refl _) _
  have GA : Blk (w6.alloc (.cells #[.slice z0 s0 y0, .slice z1 s1 y1, .slice z2 s2 y2] 37)) w6.heap.size [.slice z0 s0 y0, .slice z1 s1 y1, .slice z2 s2 y2] := Blk.new w6 [.slice z0 s0 y0, .slice z1 s1 y1, .slice z2 s2 y2] _
  have y60 : w6.cell? ⟨w.heap.size + 1, 0, none⟩ = some (.int .i64 f.depot) := Y6.cell 0 (by simp)
  have y61 : w6.cell? ⟨w.heap.size + 1, 1, none⟩ = some (.int .i64 f.start) := Y6.cell 1 (by simp)
  have y62 : w6.cell? ⟨w.heap.size + 1, 2, none⟩ = some (.int .i64 f.veh) := Y6.cell 2 (by simp)
  have y63 : w6.cell? ⟨w.heap.size + 1, 3, none⟩ = some (.int .i64 f.room) := Y6.cell 3 (by simp)
  have y64 : w6.cell? ⟨w.heap.size + 1, 4, none⟩ = some (.slice fa nt fc) := Y6.cell 4 (by simp)
  have yl6 := Y6.lt
  go_wp2_with fail
  refine (toFleetV _ f bf _ (hF'.bel (bel_step S6 hbA)) Hntm.out).mono ?_
  rintro e w7 ⟨B7, d7, rfl, T7, hb7⟩
  rw [Hnt.out]
  have S7 := bel_step (bel_step S6 hbA) hb7
  have X7 := (X6.bel hbA).bel hb7
  have Y7 := (Y6.bel hbA).bel hb7
  have G7 := GA.bel hb7
  have V7 := (V6.bel hbA).bel hb7
  clear X6 Y6 GA V6 yl6 y60 y61 y62 y63 y64
  have g70 : w7.cell? ⟨w6.heap.size, 0, none⟩ = some (.slice z0 s0 y0) := G7.cell 0 (by simp)
  have g71 : w7.cell? ⟨w6.heap.size, 1, none⟩ = some (.slice z1 s1 y1) := G7.cell 1 (by simp)
  have g72 : w7.cell? ⟨w6.heap.size, 2, none⟩ = some (.slice z2 s2 y2) := G7.cell 2 (by simp)
  have gl7 := G7.lt
  have hbB : Bel w7 (w7.alloc (.cells #[.int .i64 f.depot, .int .i64 f.start, .int .i64 f.veh, .int .i64 f.room, .slice (some ⟨B7, 0, none⟩) nt nt] 41)) := bel_alloc (Bel.refl _) _
  have FB : Blk (w7.alloc (.cells #[.int .i64 f.depot, .int .i64 f.start, .int .i64 f.veh, .int .i64 f.room, .slice (some ⟨B7, 0, none⟩) nt nt] 41)) w7.heap.size [.int .i64 f.depot, .int .i64 f.start, .int .i64 f.veh, .int .i64 f.room, .slice (some ⟨B7, 0, none⟩) nt nt] := Blk.new w7 [.int .i64 f.depot, .int .i64 f.start, .int .i64 f.veh, .int .i64 f.room, .slice (some ⟨B7, 0, none⟩) nt nt] _
  go_wp2_with fail
  refine (fleetOk_any _ m d6 f _ nt nt d7 _ (V7.bel hbB) HL.out (T7.bel taskE hbB) Hnt.out hntm).mono ?_
  rintro e w8 ⟨rfl, hb8⟩
  rw [HR.out]
  have S8 := bel_step (bel_step S7 hbB) hb8
  have X8 := (X7.bel hbB).bel hb8
  have Y8 := (Y7.bel hbB).bel hb8
  have G8 := (G7.bel hbB).bel hb8
  have F8 := FB.bel hb8
  have V8 := (V7.bel hbB).bel hb8
  have T8 := (T7.bel taskE hbB).bel taskE hb8
  clear X7 Y7 G7 FB V7 T7 gl7 g70 g71 g72 hb8 hbB hb7 hbA hb6
  have hR8 : ∀ w', Bel w8 w' → w'.cell? ⟨w.heap.size, 0, none⟩ = some (.slice a0 n0 c0) ∧ w'.cell? ⟨w.heap.size, 1, none⟩ = some (.slice a1 n1 c1) ∧ w'.cell? ⟨w.heap.size, 2, none⟩ = some (.slice a2 n2 c2) ∧ w'.cell? ⟨w.heap.size + 1, 0, none⟩ = some (.int .i64 f.depot) ∧ w'.cell? ⟨w.heap.size + 1, 1, none⟩ = some (.int .i64 f.start) ∧ w'.cell? ⟨w.heap.size + 1, 2, none⟩ = some (.int .i64 f.veh) ∧ w'.cell? ⟨w.heap.size + 1, 3, none⟩ = some (.int .i64 f.room) ∧ w'.cell? ⟨w.heap.size + 1, 4, none⟩ = some (.slice fa nt fc) ∧ w'.cell? ⟨w6.heap.size, 0, none⟩ = some (.slice z0 s0 y0) ∧ w'.cell? ⟨w6.heap.size, 1, none⟩ = some (.slice z1 s1 y1) ∧ w'.cell? ⟨w6.heap.size, 2, none⟩ = some (.slice z2 s2 y2) ∧ w'.cell? ⟨w7.heap.size, 0, none⟩ = some (.int .i64 f.depot) ∧ w'.cell? ⟨w7.heap.size, 1, none⟩ = some (.int .i64 f.start) ∧ w'.cell? ⟨w7.heap.size, 2, none⟩ = some (.int .i64 f.veh) ∧ w'.cell? ⟨w7.heap.size, 3, none⟩ = some (.int .i64 f.room) ∧ w'.cell? ⟨w7.heap.size, 4, none⟩ = some (.slice (some ⟨B7, 0, none⟩) nt nt) := fun w' h => ⟨(X8.bel h).cell 0 (by simp), (X8.bel h).cell 1 (by simp), (X8.bel h).cell 2 (by simp), (Y8.bel h).cell 0 (by simp), (Y8.bel h).cell 1 (by simp), (Y8.bel h).cell 2 (by simp), (Y8.bel h).cell 3 (by simp), (Y8.bel h).cell 4 (by simp), (G8.bel h).cell 0 (by simp), (G8.bel h).cell 1 (by simp), (G8.bel h).cell 2 (by simp), (F8.bel h).cell 0 (by simp), (F8.bel h).cell 1 (by simp), (F8.bel h).cell 2 (by simp), (F8.bel h).cell 3 (by simp), (F8.bel h).cell 4 (by simp)⟩
  have g8 : Bel w8 w8 := Bel.refl _
  have hM8 : ∀ w', Bel w8 w' → GphV w' (.agg #[.slice a0 n0 c0, .slice a1 n1 c1, .slice a2 n2 c2]) m bs := fun w' h => hV'.bel (bel_step S8 h)
  have hX8 : ∀ w', Bel w8 w' → GphV w' (.agg #[.slice z0 s0 y0, .slice z1 s1 y1, .slice z2 s2 y2]) m d6 := fun w' h => V8.bel h
  have hF8 : ∀ w', Bel w8 w' → FltV w' (fltV f fa nt fc) f bf := fun w' h => hF'.bel (bel_step S8 h)
  have hT8 : ∀ w', Bel w8 w' → TaskL w' (some ⟨B7, 0, none⟩) f.tasks d7 := fun w' h => T8.bel taskE h
  clear X8 Y8 G8 F8 V8 T8
  go_wp2
  go_region_held3 (fun w' => Bel w8 w') (with_reducible (repeat (first | assumption | exact g8 | refine Bel.drew ?_ | refine bel_then (by assumption) ?_)))
    (first
      | (go_at_call 7; refine (toGraph_v _ m bs _ (hM8 _ (by assumption)) HL.out).mono ?_; rintro e w9 ⟨v9, d9, rfl, V9, _, hb9⟩)
      | (go_at_call 10; refine (eqGraph_v _ _ m d6 d9 _ (hX8 _ (by assumption)) V9 HL.out).mono ?_; rintro e w10 ⟨rfl, hb10⟩))
  have hH : Bel w8 w10 := by assumption
  clear V9 hM8 hX8
  go_wp2
  go_region_held3 (fun w' => Bel w8 w') (with_reducible (repeat (first | assumption | exact hH | refine Bel.drew ?_ | refine bel_then (by assumption) ?_)))
    (first
      | (go_at_call 8; refine (toFleetV _ f bf _ (hF8 _ (by assumption)) Hntm.out).mono ?_; rintro e w11 ⟨B11, d11, rfl, T11, hb11⟩; rw [Hnt.out])
      | (go_at_call 11; refine (eqFleet_same _ _ _ _ _ nt _ f.tasks d7 _ _ d11 _ (hT8 _ (by assumption)) Hnt.out T11 hntm).mono ?_; rintro e w12 ⟨rfl, hb12⟩))
  have hH2 : Bel w8 w12 := by assumption
  go_wp2
  go_ret
  exact ⟨rfl, bel_step S8 hH2⟩

end Go.Proofs.Ytgakdeaniojleaa
