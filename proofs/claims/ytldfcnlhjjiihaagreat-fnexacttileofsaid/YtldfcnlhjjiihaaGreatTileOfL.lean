/-
  The walk of the law: for every map and every tile TileOf answers as its model does; what was handed in stays as it was; the answer shares no memory with it nor with the answer of another call.
-/
import Derived.Test.YtldfcnlhjjiihaaGreatLnsS
import Derived.Test.YtldfcnlhjjiihaaGreatTofI
import Derived.Test.YtldfcnlhjjiihaaGreatKP
import Derived.Test.YtldfcnlhjjiihaaGreatDTile
import Derived.Test.YtldfcnlhjjiihaaGreatKK
import Derived.Test.YtldfcnlhjjiihaaGreatKF
import Derived.Deep.DeepCutAuto
import Derived.Deep.RegionHeld3
namespace Go.Proofs.YtldfcnlhjjiihaaGreat
open Go.ChangeShapes Go.WideShapes Go.ChangeAt Go.RowKit

theorem tdtQ_Q {m : MapD} {z x y : Int} (h : MapL m) : TdtQ (tdtQ m ⟨z, x, y⟩) := by
 unfold tdtQ
 split
 ·rename_i hh
  rw [Bool.and_eq_true] at hh
  refine ⟨?_, fun i hi => ?_⟩
  ·show (lnsQ m.nodes m.ways z x y).length ≤ 1048576
   have := lnsU_len m.nodes m.ways z x y m.ways.length
   exact Nat.le_trans this (by decide)
  ·have hm : (lnsQ m.nodes m.ways z x y)[i] ∈ lnsQ m.nodes m.ways z x y := List.getElem_mem hi
   obtain ⟨d, hd, hl⟩ := List.mem_flatMap.1 (List.mem_of_mem_take hm)
   obtain ⟨k, hk, rfl⟩ := List.getElem_of_mem (List.mem_of_mem_take hd)
   unfold lnsW at hl
   obtain ⟨c, hc, e⟩ := List.mem_map.1 hl
   show (lnsQ m.nodes m.ways z x y)[i].row.length ≤ 1048576 ∧ (lnsQ m.nodes m.ways z x y)[i].tags.length ≤ 1048576
   rw [← e]
   refine ⟨Nat.le_trans (qzQ_len _ _ _ _ _ _) ?_, (h.u1 k hk).2⟩
   obtain ⟨j, hj, rfl⟩ := List.getElem_of_mem hc
   exact Nat.le_trans (flt_len hj) (Nat.le_trans (clipQ_J (tbx_ordT hh.2).2.2).2.2 (by decide))
 ·exact ⟨Nat.zero_le _, fun i hi => absurd hi (Nat.not_lt_zero _)⟩

set_option maxRecDepth 100000 in
set_option maxHeartbeats 16000000 in
theorem lawFnExactTileOf_any (v : Value) (m : MapD) (bs : List Nat) (z x y : Int) (w : World) (hV : MapV w v m bs) (hN : MapN m) :
  Calls Tryz.prog 3 #[v, .agg #[.int .i64 z, .int .i64 x, .int .i64 y]] w fun e w' => e = .returned (.bool true) ∧ Bel w w' := by
 have hV' := hV
 obtain ⟨a0, c0, a1, c1, a2, c2, b0, b1, b2, rfl, _, _, _, _⟩ := hV.out
 clear hV
 obtain ⟨n0, hn0⟩ : ∃ n, m.nodes.length = n := ⟨_, rfl⟩
 obtain ⟨n1, hn1⟩ : ∃ n, m.ways.length = n := ⟨_, rfl⟩
 obtain ⟨n2, hn2⟩ : ∃ n, m.areas.length = n := ⟨_, rfl⟩
 rw [hn0, hn1, hn2] at hV' ⊢
 clear hn0 hn1 hn2
 obtain ⟨W0, HW0⟩ : ∃ W, Hid (W = (w.alloc (.cells #[.slice a0 n0 c0, .slice a1 n1 c1, .slice a2 n2 c2] 26)).alloc (.cells #[.int .i64 z, .int .i64 x, .int .i64 y] 28)) := ⟨_, (rfl : (w.alloc (.cells #[.slice a0 n0 c0, .slice a1 n1 c1, .slice a2 n2 c2] 26)).alloc (.cells #[.int .i64 z, .int .i64 x, .int .i64 y] 28) = _)⟩
 have S0 : Bel w W0 := by rw [HW0.out]; exact bel_alloc (bel_alloc (Bel.refl _) _) _
 have X0 : Blk W0 w.heap.size [.slice a0 n0 c0, .slice a1 n1 c1, .slice a2 n2 c2] := by rw [HW0.out]; exact (Blk.new w [.slice a0 n0 c0, .slice a1 n1 c1, .slice a2 n2 c2] _).bel (bel_alloc (Bel.refl _) _)
 have XB : Blk W0 (w.heap.size + 1) [.int .i64 z, .int .i64 x, .int .i64 y] := by rw [HW0.out]; exact Blk.new1 w _ [.int .i64 z, .int .i64 x, .int .i64 y] _
 by_cases hf : ((mapSz m : Nat) : Int) ≤ 1048576
 ·have hL := mapL_of (m := m) (by omega)
  have hs : szR 1048576 (mapSz m) = 1048576 - mapSz m := szR_pos hf
  obtain ⟨r, Hr⟩ : ∃ r, Hid (szR 1048576 (mapSz m) = r) := ⟨_, (rfl : szR 1048576 (mapSz m) = _)⟩
  have hr0 : 0 ≤ r := by rw [← Hr.out, hs]; omega
  have HL : Hid (MapL m) := hL
  have HLQ : Hid (TdtQ (tdtQ m ⟨z, x, y⟩)) := tdtQ_Q hL
  obtain ⟨M, HM⟩ : ∃ M, Hid (tdtQ m ⟨z, x, y⟩ = M) := ⟨_, (rfl : tdtQ m ⟨z, x, y⟩ = _)⟩
  rw [HM.out] at HLQ
  clear hs hf hL
  go_enter Tryz.func3, Tryz.ntmps3
  go_wp2_with fail
  rw [← HW0.out]
  refine (szMap_v _ m bs _ _ (hV'.bel S0) hN (by omega) (by omega)).mono ?_
  rintro e w1 ⟨rfl, hb1⟩
  rw [Hr.out]
  have S1 := bel_step S0 hb1
  have X1 := X0.bel hb1
  have B1 := XB.bel hb1
  clear X0 XB HW0
  have hR6 : ∀ w', Bel w1 w' → w'.cell? ⟨w.heap.size, 0, none⟩ = some (.slice a0 n0 c0) ∧ w'.cell? ⟨w.heap.size, 1, none⟩ = some (.slice a1 n1 c1) ∧ w'.cell? ⟨w.heap.size, 2, none⟩ = some (.slice a2 n2 c2) ∧ w'.cell? ⟨w.heap.size + 1, 0, none⟩ = some (.int .i64 z) ∧ w'.cell? ⟨w.heap.size + 1, 1, none⟩ = some (.int .i64 x) ∧ w'.cell? ⟨w.heap.size + 1, 2, none⟩ = some (.int .i64 y) :=
   fun w' h => ⟨(X1.bel h).cell 0 (by simp), (X1.bel h).cell 1 (by simp), (X1.bel h).cell 2 (by simp), (B1.bel h).cell 0 (by simp), (B1.bel h).cell 1 (by simp), (B1.bel h).cell 2 (by simp)⟩
  have hM6 : ∀ w', Bel w1 w' → MapV w' (.agg #[.slice a0 n0 c0, .slice a1 n1 c1, .slice a2 n2 c2]) m bs := fun w' h => hV'.bel (bel_step S1 h)
  have g0 : Bel w1 w1 := Bel.refl _
  go_wp2
  go_cut [6] (fun t wx => CutT w1 M t wx)
  case first =>
   go_region_held3 (fun w' => Bel w1 w') (with_reducible (repeat (first | assumption | exact g0 | refine Bel.drew ?_ | refine bel_alloc ?_ _ | refine bel_set2 ?_ (by assumption) _ | refine bel_then (by assumption) ?_)))
    (first
     | (go_at_call 6; refine (toMap_v _ m bs _ (hM6 _ (by assumption)) HL.out).mono ?_; rintro e w2 ⟨v2, d2, rfl, V2, _, hb2⟩; refine (fun hk2 : Bel w1 w2 => ?_) (bel_step (by assumption) hb2); first | (refine (fun hqA : VrT w1 w2 w1.heap.size => ?_) (VrT.new (W := w1.drew) (Nat.le_refl _) hb2)) | skip)
     | (go_at_call 7; refine (toTile_any z x y _).mono ?_; rintro e w5 ⟨rfl, hb5⟩; refine (fun hk5 : Bel w1 w5 => ?_) (bel_step (by assumption) hb5); refine (fun hk25 : Bel w2 w5 => ?_) (bel_step (by with_reducible (repeat (first | exact Bel.refl _ | refine Bel.drew ?_ | refine bel_alloc ?_ _))) hb5); first | (refine (fun hqB : VrT w1 w5 w2.heap.size => ?_) (VrT.new (W := w2) (bel_size hk2) hb5)) | (refine (fun hqB : VrT w1 w5 w1.heap.size => ?_) (VrT.bel hqA hk25)) | skip)
     | (go_at_call 5; refine (specTileOf_any _ m d2 z x y _ (V2.bel (bel_step hk25 (by with_reducible (repeat (first | exact Bel.refl _ | refine Bel.drew ?_ | refine bel_alloc ?_ _))))) HL.out).mono ?_; rintro e w6 ⟨v6, e6, rfl, V6, F6, hb6⟩; refine (fun hF6 : Fresh w1 w6 e6 => ?_) (F6.old (bel_size (by assumption))); refine (fun hk6 : Bel w1 w6 => ?_) (bel_step (by assumption) hb6); refine (fun hk56 : Bel w5 w6 => ?_) (bel_step (by with_reducible (repeat (first | exact Bel.refl _ | refine Bel.drew ?_ | refine bel_alloc ?_ _))) hb6); rw [HM.out] at V6; obtain ⟨p0, r0, rfl, _⟩ := id V6; (first | (refine (fun hz : VrT w1 w6 w5.heap.size ∧ w5.heap.size ∉ e6 => ?_) ⟨VrT.new (W := w5) (bel_size hk5) hb6, VrT.no_new F6⟩) | (refine (fun hz : VrT w1 w6 _ ∧ _ ∉ e6 => ?_) ⟨VrT.bel hqB hk56, VrT.no hqB (by with_reducible (repeat (first | exact Bel.refl _ | refine Bel.drew ?_))) F6⟩) | skip); (first | (refine (fun hcs : _ ∧ _ => ?_) (VrT.cs hz.1)) | skip)))
   all_goals
    go_wp2_with fail
    go_meet
    case rel => first | exact CutT.put hz.1 hz.2 V6 hF6 hk6 | exact CutT.fresh V6 hF6 hk6
  case rest =>
   clear hR6 hM6 g0
   obtain ⟨B3, s30, s31, s32, s33, e3, rfl, hB3, hN3, K3, V3, F3, hb3⟩ := hcut.out
   obtain ⟨wA, rfl⟩ : ∃ V, V = wc := ⟨_, rfl⟩
   have S2 := bel_step S1 hb3
   have X2 := X1.bel hb3
   have B2 := B1.bel hb3
   have x20 : wA.cell? ⟨w.heap.size, 0, none⟩ = some (.slice a0 n0 c0) := X2.cell 0 (by simp)
   have x21 : wA.cell? ⟨w.heap.size, 1, none⟩ = some (.slice a1 n1 c1) := X2.cell 1 (by simp)
   have x22 : wA.cell? ⟨w.heap.size, 2, none⟩ = some (.slice a2 n2 c2) := X2.cell 2 (by simp)
   have hl1 : w.heap.size + 1 < w1.heap.size := B1.lt
   go_wp2_with fail
   refine (toMap_v _ m bs _ (hV'.bel S2) HL.out).mono ?_
   rintro e w4 ⟨v4, d4, rfl, V4, F4, hb4⟩
   obtain ⟨z0, y0, z1, y1, z2, y2, g0, g1, g2, rfl, _⟩ := id V4.out
   obtain ⟨s0, hs0⟩ : ∃ n, m.nodes.length = n := ⟨_, rfl⟩
   obtain ⟨s1, hs1⟩ : ∃ n, m.ways.length = n := ⟨_, rfl⟩
   obtain ⟨s2, hs2⟩ : ∃ n, m.areas.length = n := ⟨_, rfl⟩
   rw [hs0, hs1, hs2] at V4 ⊢
   clear hs0 hs1 hs2
   obtain ⟨wB, HwB⟩ : ∃ W, Hid (W = w4.alloc (.cells #[.slice z0 s0 y0, .slice z1 s1 y1, .slice z2 s2 y2] 39)) := ⟨_, (rfl : w4.alloc (.cells #[.slice z0 s0 y0, .slice z1 s1 y1, .slice z2 s2 y2] 39) = _)⟩
   have hbB : Bel w4 wB := by rw [HwB.out]; exact bel_alloc (Bel.refl _) _
   have hwBs : Hid (wB.heap.size = w4.heap.size + 1) := by rw [HwB.out]; exact (by simp : (w4.alloc _).heap.size = w4.heap.size + 1)
   have Y4 : Blk wB w4.heap.size [.slice z0 s0 y0, .slice z1 s1 y1, .slice z2 s2 y2] := by rw [HwB.out]; exact Blk.new w4 [.slice z0 s0 y0, .slice z1 s1 y1, .slice z2 s2 y2] _
   have hAB := bel_step hb4 hbB
   have S4 := bel_step S2 hAB
   have X4 := X2.bel hAB
   have B4 := B2.bel hAB
   have K4 := K3.bel hAB
   have V43 := V3.bel hAB
   have V44 := V4.bel hbB
   have F4n : Hid (∀ x ∈ d4, wA.heap.size ≤ x ∧ x < w4.heap.size) := F4.new
   have F44 := F4.bel hbB
   have hA4 := hb4.out.size
   have hB3l : B3 < wA.heap.size := K3.lt
   have F3n : Hid (∀ x ∈ e3, w1.heap.size ≤ x ∧ x < wA.heap.size) := F3.new
   have b40 : w4.cell? ⟨w.heap.size + 1, 0, none⟩ = some (.int .i64 z) := (B2.bel hb4).cell 0 (by simp)
   have hR2 : ∀ w', Bel wB w' → w'.cell? ⟨w4.heap.size, 0, none⟩ = some (.slice z0 s0 y0) ∧ w'.cell? ⟨w4.heap.size, 1, none⟩ = some (.slice z1 s1 y1) ∧ w'.cell? ⟨w4.heap.size, 2, none⟩ = some (.slice z2 s2 y2) ∧ w'.cell? ⟨w.heap.size + 1, 0, none⟩ = some (.int .i64 z) ∧ w'.cell? ⟨w.heap.size + 1, 1, none⟩ = some (.int .i64 x) ∧ w'.cell? ⟨w.heap.size + 1, 2, none⟩ = some (.int .i64 y) :=
    fun w' h => ⟨(Y4.bel h).cell 0 (by simp), (Y4.bel h).cell 1 (by simp), (Y4.bel h).cell 2 (by simp), (B4.bel h).cell 0 (by simp), (B4.bel h).cell 1 (by simp), (B4.bel h).cell 2 (by simp)⟩
   have hM2 : ∀ w', Bel wB w' → MapV w' (.agg #[.slice z0 s0 y0, .slice z1 s1 y1, .slice z2 s2 y2]) m d4 := fun w' h => V44.bel h
   have g00 : Bel wB wB := Bel.refl _
   clear x20 x21 x22 b40 X2 B2 K3 V3 F3 V4 F4
   go_wp2
   rw [← HwB.out]
   go_cut [8] (fun t wx => CutT wB M t wx)
   case first =>
    go_region_held3 (fun w' => Bel wB w') (with_reducible (repeat (first | assumption | exact g00 | refine Bel.drew ?_ | refine bel_alloc ?_ _ | refine bel_set2 ?_ (by assumption) _ | refine bel_then (by assumption) ?_)))
     (first
      | (go_at_call 7; refine (toTile_any z x y _).mono ?_; rintro e w5 ⟨rfl, hb5⟩; refine (fun hk5 : Bel wB w5 => ?_) (bel_step (by assumption) hb5); first | (refine (fun hqB : VrT wB w5 wB.heap.size => ?_) (VrT.new (W := wB.drew) (Nat.le_refl _) hb5)) | skip)
      | (go_at_call 8; refine (tileOf_any _ m d4 z x y _ (hM2 _ (by assumption)) HL.out).mono ?_; rintro e w6 ⟨v6, e6, rfl, V6, F6, hb6⟩; refine (fun hF6 : Fresh wB w6 e6 => ?_) (F6.old (bel_size (by assumption))); refine (fun hk6 : Bel wB w6 => ?_) (bel_step (by assumption) hb6); refine (fun hk56 : Bel w5 w6 => ?_) (bel_step (by with_reducible (repeat (first | exact Bel.refl _ | refine Bel.drew ?_ | refine bel_alloc ?_ _))) hb6); rw [HM.out] at V6; obtain ⟨p0, r0, rfl, _⟩ := id V6; (first | (refine (fun hz : VrT wB w6 w5.heap.size ∧ w5.heap.size ∉ e6 => ?_) ⟨VrT.new (W := w5) (bel_size hk5) hb6, VrT.no_new F6⟩) | (refine (fun hz : VrT wB w6 _ ∧ _ ∉ e6 => ?_) ⟨VrT.bel hqB hk56, VrT.no hqB (by with_reducible (repeat (first | exact Bel.refl _ | refine Bel.drew ?_))) F6⟩) | skip); (first | (refine (fun hcs : _ ∧ _ => ?_) (VrT.cs hz.1)) | skip)))
    all_goals
     go_wp2_with fail
     go_meet
     case rel => first | exact CutT.put hz.1 hz.2 V6 hF6 hk6 | exact CutT.fresh V6 hF6 hk6
   case rest =>
    clear hR2 hM2 g00
    obtain ⟨B8, s80, s81, s82, s83, e8, rfl, hB8, hN8, K8, V8, F8, hb8⟩ := hcut.out
    obtain ⟨wC, rfl⟩ : ∃ V, V = wc := ⟨_, rfl⟩
    have S5 := bel_step S4 hb8
    have X5 := X4.bel hb8
    have BB5 := B4.bel hb8
    have K35 := K4.bel hb8
    have Y5 := Y4.bel hb8
    have V35 := V43.bel hb8
    have V45 := V44.bel hb8
    have F45 := F44.bel hb8
    have F8n : Hid (∀ x ∈ e8, wB.heap.size ≤ x ∧ x < wC.heap.size) := F8.new
    have q80 : wC.cell? ⟨B8, 0, none⟩ = some s80 := K8.cell 0 (by simp)
    have q81 : wC.cell? ⟨B8, 1, none⟩ = some s81 := K8.cell 1 (by simp)
    have q82 : wC.cell? ⟨B8, 2, none⟩ = some s82 := K8.cell 2 (by simp)
    have q83 : wC.cell? ⟨B8, 3, none⟩ = some s83 := K8.cell 3 (by simp)
    have q30 : wC.cell? ⟨B3, 0, none⟩ = some s30 := K35.cell 0 (by simp)
    have q31 : wC.cell? ⟨B3, 1, none⟩ = some s31 := K35.cell 1 (by simp)
    have q32 : wC.cell? ⟨B3, 2, none⟩ = some s32 := K35.cell 2 (by simp)
    have q33 : wC.cell? ⟨B3, 3, none⟩ = some s33 := K35.cell 3 (by simp)
    clear X4 B4 K4 Y4 V43 V44 F44
    go_wp2_with fail
    refine (eqTileData_v _ _ M e8 e3 _ V8 V35 HLQ.out).mono ?_
    rintro e w7 ⟨rfl, hb7⟩
    have S7 := bel_step S5 hb7
    have X7 := X5.bel hb7
    have BB7 := BB5.bel hb7
    have K37 := K35.bel hb7
    have K87 := K8.bel hb7
    have Y7 := Y5.bel hb7
    have V37 := V35.bel hb7
    have V47 := V45.bel hb7
    have V87 := V8.bel hb7
    have F47 := F45.bel hb7
    have F87 := F8.bel hb7
    have hR : ∀ w', Bel w7 w' → w'.cell? ⟨w.heap.size, 0, none⟩ = some (.slice a0 n0 c0) ∧ w'.cell? ⟨w.heap.size, 1, none⟩ = some (.slice a1 n1 c1) ∧ w'.cell? ⟨w.heap.size, 2, none⟩ = some (.slice a2 n2 c2) ∧ w'.cell? ⟨w4.heap.size, 0, none⟩ = some (.slice z0 s0 y0) ∧ w'.cell? ⟨w4.heap.size, 1, none⟩ = some (.slice z1 s1 y1) ∧ w'.cell? ⟨w4.heap.size, 2, none⟩ = some (.slice z2 s2 y2) :=
     fun w' h => ⟨(X7.bel h).cell 0 (by simp), (X7.bel h).cell 1 (by simp), (X7.bel h).cell 2 (by simp), (Y7.bel h).cell 0 (by simp), (Y7.bel h).cell 1 (by simp), (Y7.bel h).cell 2 (by simp)⟩
    have g0 : Bel w7 w7 := Bel.refl _
    have hM5 : ∀ w', Bel w7 w' → MapV w' (.agg #[.slice a0 n0 c0, .slice a1 n1 c1, .slice a2 n2 c2]) m bs := fun w' h => hV'.bel (bel_step S7 h)
    have hX5 : ∀ w', Bel w7 w' → MapV w' (.agg #[.slice z0 s0 y0, .slice z1 s1 y1, .slice z2 s2 y2]) m d4 := fun w' h => V47.bel h
    clear q80 q81 q82 q83 q30 q31 q32 q33 X5 BB5 K35 K8 Y5 V35 V45 V8 F45 F8
    go_wp2
    go_region_held3 (fun w' => Bel w7 w') (with_reducible (repeat (first | assumption | exact g0 | refine Bel.drew ?_ | refine bel_then (by assumption) ?_)))
     (first
      | (go_at_call 6; refine (toMap_v _ m bs _ (hM5 _ (by assumption)) HL.out).mono ?_; rintro e w8 ⟨v8, d8, rfl, V8, _, hb8'⟩)
      | (go_at_call 10; refine (eqMap_v _ _ m d4 d8 _ (hX5 _ (by assumption)) V8 HL.out).mono ?_; rintro e w9 ⟨rfl, hb9⟩))
    have hH : Bel w7 w9 := by assumption
    have S9 := bel_step S7 hH
    have X9 := X7.bel hH
    have BB9 := BB7.bel hH
    have K39 := K37.bel hH
    have K89 := K87.bel hH
    have Y9 := Y7.bel hH
    have V39 := V37.bel hH
    have V49 := V47.bel hH
    have V89 := V87.bel hH
    have F49 := F47.bel hH
    have F89 := F87.bel hH
    have hwBz := hwBs.out
    have hBl : w4.heap.size < B8 := by omega
    have hx1 : w.heap.size < w1.heap.size := by omega
    have z1A := hb3.out.size
    have D3 : ∀ x ∈ e3, x ∉ d4 := fun x hx hy => by have := (F3n.out x hx).2; have := (F4n.out x hy).1; omega
    have D8 : ∀ x ∈ e8, x ∉ d4 := fun x hx hy => by have := (F8n.out x hx).1; have := (F4n.out x hy).2; omega
    have D38 : ∀ x ∈ e3, x ∉ e8 := fun x hx hy => by have := (F3n.out x hx).2; have := (F8n.out x hy).1; omega
    have NM : w.heap.size ∉ d4 := fun h => by have := (F4n.out _ h).1; omega
    have NB : w.heap.size + 1 ∉ d4 := fun h => by have := (F4n.out _ h).1; omega
    have N3 : B3 ∉ d4 := fun h => by have := (F4n.out _ h).1; omega
    have N8 : B8 ∉ d4 := fun h => by have := (F4n.out _ h).2; omega
    have NM8 : w.heap.size ∉ e8 := fun h => by have := (F8n.out _ h).1; omega
    have NB8 : w.heap.size + 1 ∉ e8 := fun h => by have := (F8n.out _ h).1; omega
    have N38 : B3 ∉ e8 := fun h => by have := (F8n.out _ h).1; omega
    have hd4 : ∀ x ∈ d4, w.heap.size ≤ x := fun x hx => by have := (F4n.out x hx).1; omega
    have he8 : ∀ x ∈ e8, w.heap.size ≤ x := fun x hx => by have := (F8n.out x hx).1; omega
    obtain ⟨kE, HK⟩ : ∃ k, Hid (mkMapE 1 m = k) := ⟨_, (rfl : mkMapE 1 m = _)⟩
    have hk0 : ¬ ((kE : Nat) : Int) < 0 := by omega
    have y90 : w9.cell? ⟨w4.heap.size, 0, none⟩ = some (.slice z0 s0 y0) := Y9.cell 0 (by simp)
    have y91 : w9.cell? ⟨w4.heap.size, 1, none⟩ = some (.slice z1 s1 y1) := Y9.cell 1 (by simp)
    have y92 : w9.cell? ⟨w4.heap.size, 2, none⟩ = some (.slice z2 s2 y2) := Y9.cell 2 (by simp)
    clear hR hM5 hX5 X7 BB7 K37 K87 Y7 V37 V47 V87 F47 F87 V8 g0
    go_wp2_with fail
    refine (markMap_any _ m d4 1 _ V49 HL.out F49.free F49.nd (by omega) (by omega)).mono ?_
    rintro e wD ⟨rfl, _, _, OD⟩
    rw [HK.out]
    have SD : Bel w wD := Onl.to_bel S9 OD hd4
    have SZD : Hid (w9.heap.size ≤ wD.heap.size) := OD.size
    have XD := X9.onl OD NM
    have BD := BB9.onl OD NB
    have K3D := K39.onl OD N3
    have K8D := K89.onl OD N8
    have A3 : Alike w9 wD e3 := OD.alike (fun x hx => by have := (F3n.out x hx).2; have := K39.lt; have := hAB.out.size; have := hb8.out.size; have := hb7.out.size; have := hH.out.size; omega) D3
    have A8 : Alike w9 wD e8 := OD.alike (fun x hx => (F89.new x hx).2) D8
    have V3D := V39.alike A3
    have V8D := V89.alike A8
    have F8D := F89.alike A8
    have q80 : wD.cell? ⟨B8, 0, none⟩ = some s80 := K8D.cell 0 (by simp)
    have q81 : wD.cell? ⟨B8, 1, none⟩ = some s81 := K8D.cell 1 (by simp)
    have q82 : wD.cell? ⟨B8, 2, none⟩ = some s82 := K8D.cell 2 (by simp)
    have q83 : wD.cell? ⟨B8, 3, none⟩ = some s83 := K8D.cell 3 (by simp)
    have q30 : wD.cell? ⟨B3, 0, none⟩ = some s30 := K3D.cell 0 (by simp)
    have q31 : wD.cell? ⟨B3, 1, none⟩ = some s31 := K3D.cell 1 (by simp)
    have q32 : wD.cell? ⟨B3, 2, none⟩ = some s32 := K3D.cell 2 (by simp)
    have q33 : wD.cell? ⟨B3, 3, none⟩ = some s33 := K3D.cell 3 (by simp)
    clear y90 y91 y92 X9 BB9 K39 K89 Y9 V39 V49 V89 F49 F89 OD A3 A8
    go_wp2_with fail
    refine (eqTileData_v _ _ M e8 e3 _ V8D V3D HLQ.out).mono ?_
    rintro e wE ⟨rfl, hbE⟩
    have SE := bel_step SD hbE
    have XE := XD.bel hbE
    have BE := BD.bel hbE
    have K3E := K3D.bel hbE
    have K8E := K8D.bel hbE
    have V3E := V3D.bel hbE
    have V8E := V8D.bel hbE
    have F8E := F8D.bel hbE
    have o80 : wE.cell? ⟨B8, 0, none⟩ = some s80 := K8E.cell 0 (by simp)
    have o81 : wE.cell? ⟨B8, 1, none⟩ = some s81 := K8E.cell 1 (by simp)
    have o82 : wE.cell? ⟨B8, 2, none⟩ = some s82 := K8E.cell 2 (by simp)
    have o83 : wE.cell? ⟨B8, 3, none⟩ = some s83 := K8E.cell 3 (by simp)
    obtain ⟨kM, HKM⟩ : ∃ k, Hid (mkTdtE 1 M = k) := ⟨_, (rfl : mkTdtE 1 M = _)⟩
    have hkM : ¬ ((kM : Nat) : Int) < 0 := by omega
    clear q80 q81 q82 q83 q30 q31 q32 q33 XD BD K3D K8D V3D V8D F8D
    go_wp2_with fail
    refine (markTileData_v _ M e8 1 _ V8E HLQ.out F8E.free F8E.nd (by omega) (by omega)).mono ?_
    rintro e wF ⟨rfl, V8F, _, OF⟩
    rw [HKM.out]
    have SF : Bel w wF := Onl.to_bel SE OF he8
    have XF := XE.onl OF NM8
    have BF := BE.onl OF NB8
    have K3F := K3E.onl OF N38
    have K8F := K8E.onl OF hN8
    have V3F := V3E.alike (OF.alike (fun x hx => by have := (F3n.out x hx).2; have := K3E.lt; have := hAB.out.size; have := hb8.out.size; have := hb7.out.size; have := hH.out.size; have := SZD.out; have := hbE.out.size; omega) D38)
    have p80 : wF.cell? ⟨B8, 0, none⟩ = some s80 := K8F.cell 0 (by simp)
    have p81 : wF.cell? ⟨B8, 1, none⟩ = some s81 := K8F.cell 1 (by simp)
    have p82 : wF.cell? ⟨B8, 2, none⟩ = some s82 := K8F.cell 2 (by simp)
    have p83 : wF.cell? ⟨B8, 3, none⟩ = some s83 := K8F.cell 3 (by simp)
    clear o80 o81 o82 o83 XE BE K3E K8E V3E V8E F8E OF
    go_wp2_with fail
    refine (heldTileData_v _ M e8 1 _ V8F HLQ.out (by omega) (by omega)).mono ?_
    rintro e wG ⟨rfl, hbG⟩
    rw [HKM.out]
    have SG := bel_step SF hbG
    have XG := XF.bel hbG
    have BG := BF.bel hbG
    have K3G := K3F.bel hbG
    have K8G := K8F.bel hbG
    have V3G := V3F.bel hbG
    have V8G := V8F.bel hbG
    clear p80 p81 p82 p83 XF BF K3F K8F V3F V8F
    have hR12 : ∀ w', Bel wG w' → w'.cell? ⟨w.heap.size, 0, none⟩ = some (.slice a0 n0 c0) ∧ w'.cell? ⟨w.heap.size, 1, none⟩ = some (.slice a1 n1 c1) ∧ w'.cell? ⟨w.heap.size, 2, none⟩ = some (.slice a2 n2 c2) ∧ w'.cell? ⟨w.heap.size + 1, 0, none⟩ = some (.int .i64 z) ∧ w'.cell? ⟨w.heap.size + 1, 1, none⟩ = some (.int .i64 x) ∧ w'.cell? ⟨w.heap.size + 1, 2, none⟩ = some (.int .i64 y) :=
     fun w' h => ⟨(XG.bel h).cell 0 (by simp), (XG.bel h).cell 1 (by simp), (XG.bel h).cell 2 (by simp), (BG.bel h).cell 0 (by simp), (BG.bel h).cell 1 (by simp), (BG.bel h).cell 2 (by simp)⟩
    have hM12 : ∀ w', Bel wG w' → MapV w' (.agg #[.slice a0 n0 c0, .slice a1 n1 c1, .slice a2 n2 c2]) m bs := fun w' h => hV'.bel (bel_step SG h)
    have g0 : Bel wG wG := Bel.refl _
    go_wp2
    go_cut [12] (fun t wx => CutT wG M t wx)
    case first =>
     go_region_held3 (fun w' => Bel wG w') (with_reducible (repeat (first | assumption | exact g0 | refine Bel.drew ?_ | refine bel_alloc ?_ _ | refine bel_set2 ?_ (by assumption) _ | refine bel_then (by assumption) ?_)))
      (first
       | (go_at_call 6; refine (toMap_v _ m bs _ (hM12 _ (by assumption)) HL.out).mono ?_; rintro e w2 ⟨v2, d2, rfl, V2, _, hb2⟩; refine (fun hk2 : Bel wG w2 => ?_) (bel_step (by assumption) hb2); first | (refine (fun hqA : VrT wG w2 wG.heap.size => ?_) (VrT.new (W := wG.drew) (Nat.le_refl _) hb2)) | skip)
       | (go_at_call 7; refine (toTile_any z x y _).mono ?_; rintro e w5 ⟨rfl, hb5⟩; refine (fun hk5 : Bel wG w5 => ?_) (bel_step (by assumption) hb5); refine (fun hk25 : Bel w2 w5 => ?_) (bel_step (by with_reducible (repeat (first | exact Bel.refl _ | refine Bel.drew ?_ | refine bel_alloc ?_ _))) hb5); first | (refine (fun hqB : VrT wG w5 w2.heap.size => ?_) (VrT.new (W := w2) (bel_size hk2) hb5)) | (refine (fun hqB : VrT wG w5 wG.heap.size => ?_) (VrT.bel hqA hk25)) | skip)
       | (go_at_call 8; refine (tileOf_any _ m d2 z x y _ (V2.bel (bel_step hk25 (by with_reducible (repeat (first | exact Bel.refl _ | refine Bel.drew ?_ | refine bel_alloc ?_ _))))) HL.out).mono ?_; rintro e w6 ⟨v6, e6, rfl, V6, F6, hb6⟩; refine (fun hF6 : Fresh wG w6 e6 => ?_) (F6.old (bel_size (by assumption))); refine (fun hk6 : Bel wG w6 => ?_) (bel_step (by assumption) hb6); refine (fun hk56 : Bel w5 w6 => ?_) (bel_step (by with_reducible (repeat (first | exact Bel.refl _ | refine Bel.drew ?_ | refine bel_alloc ?_ _))) hb6); rw [HM.out] at V6; obtain ⟨p0, r0, rfl, _⟩ := id V6; (first | (refine (fun hz : VrT wG w6 w5.heap.size ∧ w5.heap.size ∉ e6 => ?_) ⟨VrT.new (W := w5) (bel_size hk5) hb6, VrT.no_new F6⟩) | (refine (fun hz : VrT wG w6 _ ∧ _ ∉ e6 => ?_) ⟨VrT.bel hqB hk56, VrT.no hqB (by with_reducible (repeat (first | exact Bel.refl _ | refine Bel.drew ?_))) F6⟩) | skip); (first | (refine (fun hcs : _ ∧ _ => ?_) (VrT.cs hz.1)) | skip)))
     all_goals
      go_wp2_with fail
      go_meet
      case rel => first | exact CutT.put hz.1 hz.2 V6 hF6 hk6 | exact CutT.fresh V6 hF6 hk6
    case rest =>
     clear hR12 hM12 g0
     obtain ⟨B9, s90, s91, s92, s93, e9, rfl, hB9, hN9, K9, V9, F9, hb9⟩ := hcut.out
     obtain ⟨wH, rfl⟩ : ∃ V, V = wc := ⟨_, rfl⟩
     have SH := bel_step SG hb9
     have K3H := K3G.bel hb9
     have K8H := K8G.bel hb9
     have V3H := V3G.bel hb9
     have V8H := V8G.bel hb9
     have q90 : wH.cell? ⟨B9, 0, none⟩ = some s90 := K9.cell 0 (by simp)
     have q91 : wH.cell? ⟨B9, 1, none⟩ = some s91 := K9.cell 1 (by simp)
     have q92 : wH.cell? ⟨B9, 2, none⟩ = some s92 := K9.cell 2 (by simp)
     have q93 : wH.cell? ⟨B9, 3, none⟩ = some s93 := K9.cell 3 (by simp)
     have q30 : wH.cell? ⟨B3, 0, none⟩ = some s30 := K3H.cell 0 (by simp)
     have q31 : wH.cell? ⟨B3, 1, none⟩ = some s31 := K3H.cell 1 (by simp)
     have q32 : wH.cell? ⟨B3, 2, none⟩ = some s32 := K3H.cell 2 (by simp)
     have q33 : wH.cell? ⟨B3, 3, none⟩ = some s33 := K3H.cell 3 (by simp)
     go_wp2_with fail
     refine (eqTileData_v _ _ M e9 e3 _ V9 V3H HLQ.out).mono ?_
     rintro e wI ⟨rfl, hbI⟩
     have SI := bel_step SH hbI
     have K8I := K8H.bel hbI
     have V8I := V8H.bel hbI
     have o80 : wI.cell? ⟨B8, 0, none⟩ = some s80 := K8I.cell 0 (by simp)
     have o81 : wI.cell? ⟨B8, 1, none⟩ = some s81 := K8I.cell 1 (by simp)
     have o82 : wI.cell? ⟨B8, 2, none⟩ = some s82 := K8I.cell 2 (by simp)
     have o83 : wI.cell? ⟨B8, 3, none⟩ = some s83 := K8I.cell 3 (by simp)
     clear q90 q91 q92 q93 q30 q31 q32 q33
     go_wp2_with fail
     refine (heldTileData_v _ M e8 1 _ V8I HLQ.out (by omega) (by omega)).mono ?_
     rintro e wJ ⟨rfl, hbJ⟩
     rw [HKM.out]
     have SJ := bel_step SI hbJ
     clear o80 o81 o82 o83
     go_wp2
     go_ret
     exact ⟨rfl, SJ⟩
 ·obtain ⟨r, Hr⟩ : ∃ r, Hid (szR 1048576 (mapSz m) = r) := ⟨_, (rfl : szR 1048576 (mapSz m) = _)⟩
  have hr0 : r = -1 := by rw [← Hr.out]; exact szR_neg hf
  subst hr0
  clear hf
  go_enter Tryz.func3, Tryz.ntmps3
  go_wp2_with fail
  rw [← HW0.out]
  refine (szMap_v _ m bs _ _ (hV'.bel S0) hN (by omega) (by omega)).mono ?_
  rintro e w1 ⟨rfl, hb1⟩
  rw [Hr.out]
  go_wp2
  go_ret
  exact ⟨rfl, bel_step S0 hb1⟩
end Go.Proofs.YtldfcnlhjjiihaaGreat
