/-
  Contracts of the laws' own functions on Spot data: counted, copied, held against each other.
  Contracts of the laws' own functions on Road data: counted, copied, held against each other.
  Contracts of the laws' own functions on Ban data: counted, copied, held against each other.
  Contracts of the laws' own functions on Graph data: counted, copied, held against each other.
  Graphs as the laws count, copy and compare them: contracts in one word.
-/
import Derived.Test.YtdlgehnoiaoneaaGreatDoorGB
import Derived.Test.YtdlgehnoiaoneaaGreatDoorGF
import Derived.Deep.LoopGhost
import Derived.OwnWalk
import Derived.Deep.RegionHeld3
import Derived.Test.YtdlgehnoiaoneaaGreatDoorGI
namespace Go.Proofs.YtdlgehnoiaoneaaGreatDoor
open Go.RowKit

theorem toSpot_any (x0 x1 x2 : Int) (w : World) :
    Calls Tryz.prog 38 #[.agg #[.int .i64 x0, .int .i64 x1, .int .i64 x2]] w fun e w' => e = .returned (.agg #[.int .i64 x0, .int .i64 x1, .int .i64 x2]) ∧ Bel w w' := by
  have S0 : Bel w (((w.alloc (.cells #[.int .i64 x0, .int .i64 x1, .int .i64 x2] 82)).alloc (.cells #[.int .i64 0, .int .i64 0, .int .i64 0] 68)).alloc (.cells #[.int .i64 x0, .int .i64 0, .int .i64 0] 68)) := bel_alloc (bel_alloc (bel_alloc (Bel.refl _) _) _) _
  have X0 : Blk (((w.alloc (.cells #[.int .i64 x0, .int .i64 x1, .int .i64 x2] 82)).alloc (.cells #[.int .i64 0, .int .i64 0, .int .i64 0] 68)).alloc (.cells #[.int .i64 x0, .int .i64 0, .int .i64 0] 68)) (w.heap.size) [.int .i64 x0, .int .i64 x1, .int .i64 x2] := (Blk.new w [.int .i64 x0, .int .i64 x1, .int .i64 x2] 82).bel (bel_alloc (bel_alloc (Bel.refl _) _) _)
  have R0 : Blk (((w.alloc (.cells #[.int .i64 x0, .int .i64 x1, .int .i64 x2] 82)).alloc (.cells #[.int .i64 0, .int .i64 0, .int .i64 0] 68)).alloc (.cells #[.int .i64 x0, .int .i64 0, .int .i64 0] 68)) (w.heap.size + 1) [.int .i64 0, .int .i64 0, .int .i64 0] := (Blk.new1 w _ [.int .i64 0, .int .i64 0, .int .i64 0] 68).bel (bel_alloc (Bel.refl _) _)
  have O0 : Blk (((w.alloc (.cells #[.int .i64 x0, .int .i64 x1, .int .i64 x2] 82)).alloc (.cells #[.int .i64 0, .int .i64 0, .int .i64 0] 68)).alloc (.cells #[.int .i64 x0, .int .i64 0, .int .i64 0] 68)) (w.heap.size + 1 + 1) [.int .i64 x0, .int .i64 0, .int .i64 0] := Blk.new2 w _ _ [.int .i64 x0, .int .i64 0, .int .i64 0] 68
  have y0 : w.heap.size + 3 ≤ (((w.alloc (.cells #[.int .i64 x0, .int .i64 x1, .int .i64 x2] 82)).alloc (.cells #[.int .i64 0, .int .i64 0, .int .i64 0] 68)).alloc (.cells #[.int .i64 x0, .int .i64 0, .int .i64 0] 68)).heap.size := by simp
  go_enter Tryz.func38, Tryz.ntmps38
  go_wp2_with fail
  refine (toPoint_any _ _ _).mono ?_
  rintro e w1 ⟨rfl, hb1⟩
  have V1 := bel_step S0 hb1
  have X1 := X0.bel hb1
  have R1 := R0.bel hb1
  have O1 := O0.bel hb1
  have z1 : w.heap.size + 3 ≤ w1.heap.size := Nat.le_trans y0 hb1.out.size
  have x10 : w1.cell? ⟨w.heap.size, 0, none⟩ = some (.int .i64 x0) := X1.cell 0 (by simp)
  have r10 : w1.cell? ⟨w.heap.size + 1, 0, none⟩ = some (.int .i64 0) := R1.cell 0 (by simp)
  have o10 : w1.cell? ⟨w.heap.size + 1 + 1, 0, none⟩ = some (.int .i64 x0) := O1.cell 0 (by simp)
  have x11 : w1.cell? ⟨w.heap.size, 1, none⟩ = some (.int .i64 x1) := X1.cell 1 (by simp)
  have r11 : w1.cell? ⟨w.heap.size + 1, 1, none⟩ = some (.int .i64 0) := R1.cell 1 (by simp)
  have o11 : w1.cell? ⟨w.heap.size + 1 + 1, 1, none⟩ = some (.int .i64 0) := O1.cell 1 (by simp)
  have x12 : w1.cell? ⟨w.heap.size, 2, none⟩ = some (.int .i64 x2) := X1.cell 2 (by simp)
  have r12 : w1.cell? ⟨w.heap.size + 1, 2, none⟩ = some (.int .i64 0) := R1.cell 2 (by simp)
  have o12 : w1.cell? ⟨w.heap.size + 1 + 1, 2, none⟩ = some (.int .i64 0) := O1.cell 2 (by simp)
  have g1 := X1.free
  have gr1 := R1.free
  have go1 := O1.free
  go_wp2
  refine bodyPost_ret (v := .agg #[.int .i64 x0, .int .i64 x1, .int .i64 x2]) (by simp [results, Tryz.results38, go_sem, r10, r11, r12]) rfl ?_
  refine ⟨rfl, ?_⟩
  (with_reducible repeat (first | exact V1 | refine bel_set ?_ ?_ _)) <;> simp <;> omega

theorem eqSp_same (x y : Int) (w : World) :
    Calls Tryz.prog 62 #[pt x y, pt x y] w fun e w' => e = .returned (.bool true) ∧ Bel w w' := by
  go_enter Tryz.func62, Tryz.ntmps62
  go_wp2
  go_ret
  exact ⟨rfl, bel_alloc (bel_alloc (Bel.refl _) _) _⟩

theorem eqSpot_same (x0 x1 x2 : Int) (w : World) :
    Calls Tryz.prog 47 #[.agg #[.int .i64 x0, .int .i64 x1, .int .i64 x2], .agg #[.int .i64 x0, .int .i64 x1, .int .i64 x2]] w fun e w' => e = .returned (.bool true) ∧ Bel w w' := by
  have S0 : Bel w ((w.alloc (.cells #[.int .i64 x0, .int .i64 x1, .int .i64 x2] 68)).alloc (.cells #[.int .i64 x0, .int .i64 x1, .int .i64 x2] 68)) := bel_alloc (bel_alloc (Bel.refl _) _) _
  have X0 : Blk ((w.alloc (.cells #[.int .i64 x0, .int .i64 x1, .int .i64 x2] 68)).alloc (.cells #[.int .i64 x0, .int .i64 x1, .int .i64 x2] 68)) w.heap.size [.int .i64 x0, .int .i64 x1, .int .i64 x2] := (Blk.new w [.int .i64 x0, .int .i64 x1, .int .i64 x2] 68).bel (bel_alloc (Bel.refl _) _)
  have Y0 : Blk ((w.alloc (.cells #[.int .i64 x0, .int .i64 x1, .int .i64 x2] 68)).alloc (.cells #[.int .i64 x0, .int .i64 x1, .int .i64 x2] 68)) (w.heap.size + 1) [.int .i64 x0, .int .i64 x1, .int .i64 x2] := Blk.new1 w _ [.int .i64 x0, .int .i64 x1, .int .i64 x2] 68
  go_enter Tryz.func47, Tryz.ntmps47
  go_wp2_with fail
  refine (eqSp_same _ _ _).mono ?_
  rintro e w1 ⟨rfl, hb1⟩
  have S1 := bel_step S0 hb1
  have X1 := X0.bel hb1
  have Y1 := Y0.bel hb1
  have x10 : w1.cell? ⟨w.heap.size, 0, none⟩ = some (.int .i64 x0) := X1.cell 0 (by simp)
  have y10 : w1.cell? ⟨w.heap.size + 1, 0, none⟩ = some (.int .i64 x0) := Y1.cell 0 (by simp)
  have x11 : w1.cell? ⟨w.heap.size, 1, none⟩ = some (.int .i64 x1) := X1.cell 1 (by simp)
  have y11 : w1.cell? ⟨w.heap.size + 1, 1, none⟩ = some (.int .i64 x1) := Y1.cell 1 (by simp)
  have x12 : w1.cell? ⟨w.heap.size, 2, none⟩ = some (.int .i64 x2) := X1.cell 2 (by simp)
  have y12 : w1.cell? ⟨w.heap.size + 1, 2, none⟩ = some (.int .i64 x2) := Y1.cell 2 (by simp)
  go_wp2
  go_ret
  exact ⟨rfl, S1⟩

theorem szSpotS_any (a : Option Addr) (n c : Nat) (l : List SpotD) (bs : List Nat) (left : Int) (w : World) (_hT : SpotL w a l bs) (hn : l.length = n) (hm : n ≤ 9223372036854775807) (h0 : 0 ≤ left) (h1 : left ≤ 1048576) :
    Calls Tryz.prog 13 #[.slice a n c, .int .i64 left] w fun e w' => e = .returned (.int .i64 (szR left l.length)) ∧ Bel w w' := by
  rw [hn]
  by_cases hf : (n : Int) ≤ left
  · rw [szR_pos hf]
    go_enter Tryz.func13, Tryz.ntmps13
    go_wp2
    go_ret
    exact ⟨rfl, Bel.refl _⟩
  · rw [szR_neg hf]
    go_enter Tryz.func13, Tryz.ntmps13
    go_wp2
    go_ret
    exact ⟨rfl, Bel.refl _⟩

theorem infoSpot : (Tryz.prog.info? 68).map (fun i => (i.zero, i.size, i.bytes)) = some (some (.agg #[.int .i64 0, .int .i64 0, .int .i64 0]), 3, 24) := by kernel_rfl
set_option maxHeartbeats 1000000 in
theorem toSpotS_any (a : Option Addr) (n c : Nat) (l : List SpotD) (bs : List Nat) (w : World) (hT : SpotL w a l bs) (hn : l.length = n) (hm : n ≤ 1048576) :
    Calls Tryz.prog 19 #[.slice a n c] w fun e w' => ∃ B cs, e = .returned (.slice (some ⟨B, 0, none⟩) n n) ∧ SpotL w' (some ⟨B, 0, none⟩) l cs ∧ Fresh w w' cs ∧ Bel w w' := by
  have Hn : Hid (l.length = n) := hn
  clear hn
  have hmk : ∀ w : World, (Instr.makeSlice 30 (.int .i64 n) (.int .i64 n)).run Tryz.prog w = .ok (.slice (some ⟨w.heap.size, 0, none⟩) n n) (w.alloc (.cells (madeCells #[.int .i64 0, .int .i64 0, .int .i64 0] (n * 3)) 68)) := fun w => by
    obtain ⟨i0, hi, hz0, hz1, hz2⟩ := info_parts infoSpot
    have := run_make (P := Tryz.prog) w 30 68 i0 (.agg #[.int .i64 0, .int .i64 0, .int .i64 0]) Tryz.underlying30 hi hz0 .i64 .i64 n n (by omega) (by omega) (by rw [hz2]; omega) (by omega)
    rw [hz1] at this
    exact this
  go_enter Tryz.func19, Tryz.ntmps19
  go_wp2
  go_loopw [4] (fun i wr => ∃ k : Nat, k ≤ n ∧ i = .int .i64 k ∧ (∃ f, Fill 3 SpotE wr w.heap.size n k l f) ∧ Bel w wr) (fun i _ => n - (intOf i).toNat)
  case atStart => exact ⟨0, Nat.zero_le _, rfl, ⟨_, Fill.start _ _ _ _ _ _⟩, bel_alloc (Bel.refl _) _⟩
  case round =>
    obtain ⟨k, hk, rfl, ⟨g, hrow⟩, hbel⟩ := hrel
    by_cases hlt : k < n
    · have hkl : k < l.length := by rw [Hn.out]; exact hlt
      obtain ⟨b, off, f, rfl, hb, hx⟩ := (hT.bel spotE hbel).out hkl
      obtain ⟨_, in0, in1, in2, c0, c1, c2⟩ := hx k hkl
      clear hx hT
      go_wp2_with fail
      refine (toSpot_any l[k].id l[k].x l[k].y _).mono ?_
      rintro e w1 ⟨rfl, hb1⟩
      have hr1 := hrow.bel spotE hb1
      have hB1 : Bel w w1 := bel_step hbel hb1
      obtain ⟨v0, d50⟩ := hr1.there (k * 3) (by omega)
      have f0 := hr1.free (k * 3)
      obtain ⟨v1, d51⟩ := hr1.there (k * 3 + 1) (by omega)
      have f1 := hr1.free (k * 3 + 1)
      obtain ⟨v2, d52⟩ := hr1.there (k * 3 + 2) (by omega)
      have f2 := hr1.free (k * 3 + 2)
      clear c0 c1 c2 hb hbel
      go_wp2
      go_roundw
      case rel =>
        have S := setRow_in w.heap.size [.int .i64 l[k].id, .int .i64 l[k].x, .int .i64 l[k].y] w1 (k * 3) (fun j hj => hr1.there _ (by simp at hj; omega))
        exact ⟨k + 1, by omega, by go_num, ⟨_, hrow.put spotE hb1 hlt Hn.out (Fresh.nil _ _) [.int .i64 l[k].id, .int .i64 l[k].x, .int .i64 l[k].y] rfl ⟨rfl, in0, in1, in2, S 0 (by simp), S 1 (by simp), S 2 (by simp)⟩⟩, setRow_bel hB1 (Nat.le_refl _) [.int .i64 l[k].id, .int .i64 l[k].x, .int .i64 l[k].y] (k * 3)⟩
      case measure => simp [intOf]; omega
    · have e : k = n := by omega
      subst e
      go_wp2
      go_ret
      exact ⟨_, _, rfl, hrow.sl Hn.out, hrow.fresh (Nat.le_refl _), hbel⟩

set_option maxHeartbeats 1000000 in
theorem eqSpotS_same (a a' : Option Addr) (n c c' : Nat) (l : List SpotD) (bs bs' : List Nat) (w : World) (hP : SpotL w a l bs) (hP' : SpotL w a' l bs') (hn : l.length = n) (hm : n ≤ 1048576) :
    Calls Tryz.prog 26 #[.slice a n c, .slice a' n c'] w fun e w' => e = .returned (.bool true) ∧ Bel w w' := by
  have Hn : Hid (l.length = n) := hn
  clear hn
  go_enter Tryz.func26, Tryz.ntmps26
  go_wp2
  go_loopw [5] (fun i wr => ∃ k : Nat, k ≤ n ∧ i = .int .i64 k ∧ Bel w wr) (fun i _ => n - (intOf i).toNat)
  case atStart => exact ⟨0, Nat.zero_le _, rfl, Bel.refl _⟩
  case round =>
    obtain ⟨k, hk, rfl, hbel⟩ := hrel
    by_cases hlt : k < n
    · have hkl : k < l.length := by rw [Hn.out]; exact hlt
      obtain ⟨b, off, f, rfl, h2, h3⟩ := (hP.bel spotE hbel).out hkl
      obtain ⟨b', off', f', rfl, h2', h3'⟩ := (hP'.bel spotE hbel).out hkl
      obtain ⟨_, in0, in1, in2, c0, c1, c2⟩ := h3 k hkl
      obtain ⟨_, in0', in1', in2', c0', c1', c2'⟩ := h3' k hkl
      have hR : ∀ w', Bel wr w' → w'.cell? ⟨b, off + k * 3, none⟩ = some (.int .i64 l[k].id) ∧ w'.cell? ⟨b, off + k * 3 + 1, none⟩ = some (.int .i64 l[k].x) ∧ w'.cell? ⟨b, off + k * 3 + 2, none⟩ = some (.int .i64 l[k].y) ∧ w'.cell? ⟨b', off' + k * 3, none⟩ = some (.int .i64 l[k].id) ∧ w'.cell? ⟨b', off' + k * 3 + 1, none⟩ = some (.int .i64 l[k].x) ∧ w'.cell? ⟨b', off' + k * 3 + 2, none⟩ = some (.int .i64 l[k].y) :=
        fun w' h => ⟨bel_cellM h h2 c0, bel_cellM h h2 c1, bel_cellM h h2 c2, bel_cellM h h2' c0', bel_cellM h h2' c1', bel_cellM h h2' c2'⟩
      have hlt' : (k : Int) < (n : Int) := by omega
      have g0 : Bel wr wr := Bel.refl _
      clear h3 h3' c0 c0' c1 c1' c2 c2' h2 h2' hP hP'
      go_wp2
      go_region_held3 (fun w' => Bel wr w') (repeat (first | exact g0 | refine Bel.drew ?_ | assumption | refine bel_then (by assumption) ?_))
        (first
          | (go_at_call 47; refine (eqSpot_same l[k].id l[k].x l[k].y _).mono ?_; rintro e w' ⟨rfl, hbk⟩))
      have hH : Bel wr w' := by assumption
      go_wp2
      go_roundw
      case rel => exact ⟨k + 1, by omega, by go_num, bel_step hbel hH⟩
      case measure => simp [intOf]; omega
    · have e : k = n := by omega
      subst e
      go_wp2
      go_ret
      exact ⟨rfl, hbel⟩

end Go.Proofs.YtdlgehnoiaoneaaGreatDoor

namespace Go.Proofs.YtdlgehnoiaoneaaGreatDoor
open Go.RowKit

theorem toRoad_any (x0 : Int) (x1 : Int) (x2 : Int) (x3 : Int) (x4 : Int) (x5 : ByteArray) (w : World) :
    Calls Tryz.prog 39 #[.agg #[.int .i64 x0, .int .i64 x1, .int .i64 x2, .int .i64 x3, .int .i64 x4, .string x5]] w fun e w' => e = .returned (.agg #[.int .i64 x0, .int .i64 x1, .int .i64 x2, .int .i64 x3, .int .i64 x4, .string x5]) ∧ Bel w w' := by
  go_enter Tryz.func39, Tryz.ntmps39
  go_wp2
  exact bodyPost_ret (v := .agg #[.int .i64 x0, .int .i64 x1, .int .i64 x2, .int .i64 x3, .int .i64 x4, .string x5]) (by simp [results, Tryz.results39, go_sem]) rfl ⟨rfl, bel_alloc (bel_alloc (bel_alloc (Bel.refl _) _) _) _⟩

theorem eqRoad_same (x0 : Int) (x1 : Int) (x2 : Int) (x3 : Int) (x4 : Int) (x5 : ByteArray) (w : World) :
    Calls Tryz.prog 48 #[.agg #[.int .i64 x0, .int .i64 x1, .int .i64 x2, .int .i64 x3, .int .i64 x4, .string x5], .agg #[.int .i64 x0, .int .i64 x1, .int .i64 x2, .int .i64 x3, .int .i64 x4, .string x5]] w fun e w' => e = .returned (.bool true) ∧ Bel w w' := by
  go_enter Tryz.func48, Tryz.ntmps48
  go_wp2
  go_ret
  exact ⟨rfl, bel_alloc (bel_alloc (Bel.refl _) _) _⟩

theorem szRoad_any (x0 x1 x2 x3 x4 : Int) (x5 : ByteArray) (left : Int) (w : World) (hv : x5.size ≤ maxLen) (h0 : 0 ≤ left) (h1 : left ≤ 1048576) :
    Calls Tryz.prog 32 #[.agg #[.int .i64 x0, .int .i64 x1, .int .i64 x2, .int .i64 x3, .int .i64 x4, .string x5], .int .i64 left] w fun e w' => e = .returned (.int .i64 (szR left (roadSz ⟨x0, x1, x2, x3, x4, x5⟩))) ∧ Bel w w' := by
  have hs : roadSz ⟨x0, x1, x2, x3, x4, x5⟩ = x5.size := rfl
  rw [hs]; clear hs
  unfold maxLen at hv
  by_cases a2 : (x5.size : Int) ≤ left
  · rw [szR_pos a2]
    go_enter Tryz.func32, Tryz.ntmps32
    go_wp2
    go_ret
    exact ⟨rfl, bel_alloc (Bel.refl _) _⟩
  · rw [szR_neg a2]
    go_enter Tryz.func32, Tryz.ntmps32
    go_wp2
    go_ret
    exact ⟨rfl, bel_alloc (Bel.refl _) _⟩

set_option maxHeartbeats 1000000 in
theorem szRoadS_any (a : Option Addr) (n c : Nat) (l : List RoadD) (bs : List Nat) (left : Int) (w : World) (hT : RoadL w a l bs) (hn : l.length = n) (hm : n ≤ 9223372036854775807) (h0 : 0 ≤ left) (h1 : left ≤ 1048576) :
    Calls Tryz.prog 14 #[.slice a n c, .int .i64 left] w fun e w' => e = .returned (.int .i64 (szR left (roadsSz l))) ∧ Bel w w' := by
  have Hn : Hid (l.length = n) := hn
  have HS : Hid (roadsSz l = n + sumTo roadSz l n) := (by unfold roadsSz; rw [hn] : roadsSz l = n + sumTo roadSz l n)
  clear hn
  by_cases hf : (n : Int) ≤ left
  · go_enter Tryz.func14, Tryz.ntmps14
    go_wp2
    go_loopw [1, 5] (fun t i wr => ∃ (k : Nat) (cur : Int), k ≤ n ∧ i = .int .i64 k ∧ t = .int .i64 cur ∧ 0 ≤ cur ∧ cur ≤ 1048576 ∧ Hid (cur = left - n - sumTo roadSz l k) ∧ Bel w wr) (fun _ i _ => n - (intOf i).toNat)
    case atStart => exact ⟨0, left - n, Nat.zero_le _, rfl, rfl, by omega, by omega, (by rw [sumTo_zero]; omega : left - (n : Int) = left - n - ((sumTo roadSz l 0 : Nat) : Int)), Bel.refl _⟩
    case round =>
      obtain ⟨k, cur, hk, rfl, rfl, p0, p1, HC, hbel⟩ := hrel
      by_cases hlt : k < n
      · have hkl : k < l.length := by rw [Hn.out]; exact hlt
        obtain ⟨b, off, f, rfl, hb, hx⟩ := (hT.bel roadE hbel).out hkl
        obtain ⟨_, in0, in1, in2, in3, in4, s5, c0, c1, c2, c3, c4, c5⟩ := hx k hkl
        have HU : Hid (sumTo roadSz l (k + 1) = sumTo roadSz l k + roadSz l[k]) := sumTo_succ _ hkl
        have HL : Hid (sumTo roadSz l (k + 1) ≤ sumTo roadSz l n) := sumTo_le _ (by omega) Hn.out.symm
        obtain ⟨r, HR⟩ : ∃ r, Hid (szR cur (roadSz l[k]) = r) := ⟨_, (rfl : szR cur (roadSz l[k]) = _)⟩
        have hr1 : r ≤ 1048576 := by rw [← HR.out]; exact (szR_bd p1).1
        clear hx hT
        by_cases p : 0 ≤ r
        · have HN : Hid (r = left - n - sumTo roadSz l (k + 1)) := by
            have h2 := HR.out; have h3 := HC.out; have h4 := HU.out
            have h5 : ((roadSz l[k] : Nat) : Int) ≤ cur := by
              by_cases h6 : ((roadSz l[k] : Nat) : Int) ≤ cur
              · exact h6
              · rw [szR_neg h6] at h2; omega
            rw [szR_pos h5] at h2
            show r = _
            omega
          go_wp2_with fail
          refine (szRoad_any _ _ _ _ _ l[k].name cur _ s5 p0 p1).mono ?_
          rintro e w1 ⟨rfl, hb1⟩
          rw [HR.out]
          have hB1 := bel_step hbel hb1
          clear hb1 hbel
          go_wp2
          go_roundw
          case rel => exact ⟨k + 1, r, by omega, by go_num, rfl, p, hr1, HN, hB1⟩
          case measure => simp [intOf]; omega
        · have HN : Hid (szR left (roadsSz l) = -1) := by
            have h2 := HR.out; have h3 := HC.out; have h4 := HU.out; have h6 := HL.out
            rw [HS.out]
            refine szR_neg fun h7 => p ?_
            have h8 : ((roadSz l[k] : Nat) : Int) ≤ cur := by omega
            rw [← h2, szR_pos h8]
            omega
          go_wp2_with fail
          refine (szRoad_any _ _ _ _ _ l[k].name cur _ s5 p0 p1).mono ?_
          rintro e w1 ⟨rfl, hb1⟩
          rw [HR.out]
          have hB1 := bel_step hbel hb1
          clear hb1 hbel
          go_wp2
          go_ret
          exact ⟨ret_num HN.out.symm, hB1⟩
      · have e : k = n := by omega
        subst e
        have HN : Hid (szR left (roadsSz l) = cur) := by
          have h3 := HC.out
          have h5 : ((k + sumTo roadSz l k : Nat) : Int) ≤ left := by omega
          rw [HS.out, szR_pos h5]
          show _ = _
          omega
        go_wp2
        go_ret
        exact ⟨ret_num HN.out.symm, hbel⟩
  · have HN : Hid (szR left (roadsSz l) = -1) := by rw [HS.out]; exact szR_neg (by omega)
    go_enter Tryz.func14, Tryz.ntmps14
    go_wp2
    go_ret
    exact ⟨ret_num HN.out.symm, Bel.refl _⟩

theorem infoRoad : (Tryz.prog.info? 71).map (fun i => (i.zero, i.size, i.bytes)) = some (some (.agg #[.int .i64 0, .int .i64 0, .int .i64 0, .int .i64 0, .int .i64 0, .string ⟨#[]⟩]), 6, 56) := by kernel_rfl
set_option maxHeartbeats 1000000 in
theorem toRoadS_any (a : Option Addr) (n c : Nat) (l : List RoadD) (bs : List Nat) (w : World) (hT : RoadL w a l bs) (hn : l.length = n) (hm : n ≤ 1048576) :
    Calls Tryz.prog 20 #[.slice a n c] w fun e w' => ∃ B cs, e = .returned (.slice (some ⟨B, 0, none⟩) n n) ∧ RoadL w' (some ⟨B, 0, none⟩) l cs ∧ Fresh w w' cs ∧ Bel w w' := by
  have Hn : Hid (l.length = n) := hn
  clear hn
  have hmk : ∀ w : World, (Instr.makeSlice 31 (.int .i64 n) (.int .i64 n)).run Tryz.prog w = .ok (.slice (some ⟨w.heap.size, 0, none⟩) n n) (w.alloc (.cells (madeCells #[.int .i64 0, .int .i64 0, .int .i64 0, .int .i64 0, .int .i64 0, .string ⟨#[]⟩] (n * 6)) 71)) := fun w => by
    obtain ⟨i0, hi, hz0, hz1, hz2⟩ := info_parts infoRoad
    have := run_make (P := Tryz.prog) w 31 71 i0 (.agg #[.int .i64 0, .int .i64 0, .int .i64 0, .int .i64 0, .int .i64 0, .string ⟨#[]⟩]) Tryz.underlying31 hi hz0 .i64 .i64 n n (by omega) (by omega) (by rw [hz2]; omega) (by omega)
    rw [hz1] at this
    exact this
  go_enter Tryz.func20, Tryz.ntmps20
  go_wp2
  go_loopw [4] (fun i wr => ∃ k : Nat, k ≤ n ∧ i = .int .i64 k ∧ (∃ f, Fill 6 RoadE wr w.heap.size n k l f) ∧ Bel w wr) (fun i _ => n - (intOf i).toNat)
  case atStart => exact ⟨0, Nat.zero_le _, rfl, ⟨_, Fill.start _ _ _ _ _ _⟩, bel_alloc (Bel.refl _) _⟩
  case round =>
    obtain ⟨k, hk, rfl, ⟨g, hrow⟩, hbel⟩ := hrel
    by_cases hlt : k < n
    · have hkl : k < l.length := by rw [Hn.out]; exact hlt
      obtain ⟨b, off, f, rfl, hb, hx⟩ := (hT.bel roadE hbel).out hkl
      obtain ⟨_, in0, in1, in2, in3, in4, s5, c0, c1, c2, c3, c4, c5⟩ := hx k hkl
      clear hx hT
      go_wp2_with fail
      refine (toRoad_any l[k].fr l[k].to l[k].way l[k].time l[k].len l[k].name _).mono ?_
      rintro e w1 ⟨rfl, hb1⟩
      have hr1 := hrow.bel roadE hb1
      have hB1 : Bel w w1 := bel_step hbel hb1
      obtain ⟨v0, d50⟩ := hr1.there (k * 6) (by omega)
      have f0 := hr1.free (k * 6)
      obtain ⟨v1, d51⟩ := hr1.there (k * 6 + 1) (by omega)
      have f1 := hr1.free (k * 6 + 1)
      obtain ⟨v2, d52⟩ := hr1.there (k * 6 + 2) (by omega)
      have f2 := hr1.free (k * 6 + 2)
      obtain ⟨v3, d53⟩ := hr1.there (k * 6 + 3) (by omega)
      have f3 := hr1.free (k * 6 + 3)
      obtain ⟨v4, d54⟩ := hr1.there (k * 6 + 4) (by omega)
      have f4 := hr1.free (k * 6 + 4)
      obtain ⟨v5, d55⟩ := hr1.there (k * 6 + 5) (by omega)
      have f5 := hr1.free (k * 6 + 5)
      clear c0 c1 c2 c3 c4 c5 hb hbel
      go_wp2
      go_roundw
      case rel =>
        have S := setRow_in w.heap.size [.int .i64 l[k].fr, .int .i64 l[k].to, .int .i64 l[k].way, .int .i64 l[k].time, .int .i64 l[k].len, .string l[k].name] w1 (k * 6) (fun j hj => hr1.there _ (by simp at hj; omega))
        exact ⟨k + 1, by omega, by go_num, ⟨_, hrow.put roadE hb1 hlt Hn.out (Fresh.nil _ _) [.int .i64 l[k].fr, .int .i64 l[k].to, .int .i64 l[k].way, .int .i64 l[k].time, .int .i64 l[k].len, .string l[k].name] rfl ⟨rfl, in0, in1, in2, in3, in4, s5, S 0 (by simp), S 1 (by simp), S 2 (by simp), S 3 (by simp), S 4 (by simp), S 5 (by simp)⟩⟩, setRow_bel hB1 (Nat.le_refl _) [.int .i64 l[k].fr, .int .i64 l[k].to, .int .i64 l[k].way, .int .i64 l[k].time, .int .i64 l[k].len, .string l[k].name] (k * 6)⟩
      case measure => simp [intOf]; omega
    · have e : k = n := by omega
      subst e
      go_wp2
      go_ret
      exact ⟨_, _, rfl, hrow.sl Hn.out, hrow.fresh (Nat.le_refl _), hbel⟩

set_option maxHeartbeats 1000000 in
theorem eqRoadS_same (a a' : Option Addr) (n c c' : Nat) (l : List RoadD) (bs bs' : List Nat) (w : World) (hP : RoadL w a l bs) (hP' : RoadL w a' l bs') (hn : l.length = n) (hm : n ≤ 1048576) :
    Calls Tryz.prog 27 #[.slice a n c, .slice a' n c'] w fun e w' => e = .returned (.bool true) ∧ Bel w w' := by
  have Hn : Hid (l.length = n) := hn
  clear hn
  go_enter Tryz.func27, Tryz.ntmps27
  go_wp2
  go_loopw [5] (fun i wr => ∃ k : Nat, k ≤ n ∧ i = .int .i64 k ∧ Bel w wr) (fun i _ => n - (intOf i).toNat)
  case atStart => exact ⟨0, Nat.zero_le _, rfl, Bel.refl _⟩
  case round =>
    obtain ⟨k, hk, rfl, hbel⟩ := hrel
    by_cases hlt : k < n
    · have hkl : k < l.length := by rw [Hn.out]; exact hlt
      obtain ⟨b, off, f, rfl, h2, h3⟩ := (hP.bel roadE hbel).out hkl
      obtain ⟨b', off', f', rfl, h2', h3'⟩ := (hP'.bel roadE hbel).out hkl
      obtain ⟨_, in0, in1, in2, in3, in4, s5, c0, c1, c2, c3, c4, c5⟩ := h3 k hkl
      obtain ⟨_, in0', in1', in2', in3', in4', s5', c0', c1', c2', c3', c4', c5'⟩ := h3' k hkl
      have hR : ∀ w', Bel wr w' → w'.cell? ⟨b, off + k * 6, none⟩ = some (.int .i64 l[k].fr) ∧ w'.cell? ⟨b, off + k * 6 + 1, none⟩ = some (.int .i64 l[k].to) ∧ w'.cell? ⟨b, off + k * 6 + 2, none⟩ = some (.int .i64 l[k].way) ∧ w'.cell? ⟨b, off + k * 6 + 3, none⟩ = some (.int .i64 l[k].time) ∧ w'.cell? ⟨b, off + k * 6 + 4, none⟩ = some (.int .i64 l[k].len) ∧ w'.cell? ⟨b, off + k * 6 + 5, none⟩ = some (.string l[k].name) ∧ w'.cell? ⟨b', off' + k * 6, none⟩ = some (.int .i64 l[k].fr) ∧ w'.cell? ⟨b', off' + k * 6 + 1, none⟩ = some (.int .i64 l[k].to) ∧ w'.cell? ⟨b', off' + k * 6 + 2, none⟩ = some (.int .i64 l[k].way) ∧ w'.cell? ⟨b', off' + k * 6 + 3, none⟩ = some (.int .i64 l[k].time) ∧ w'.cell? ⟨b', off' + k * 6 + 4, none⟩ = some (.int .i64 l[k].len) ∧ w'.cell? ⟨b', off' + k * 6 + 5, none⟩ = some (.string l[k].name) :=
        fun w' h => ⟨bel_cellM h h2 c0, bel_cellM h h2 c1, bel_cellM h h2 c2, bel_cellM h h2 c3, bel_cellM h h2 c4, bel_cellM h h2 c5, bel_cellM h h2' c0', bel_cellM h h2' c1', bel_cellM h h2' c2', bel_cellM h h2' c3', bel_cellM h h2' c4', bel_cellM h h2' c5'⟩
      have hlt' : (k : Int) < (n : Int) := by omega
      have g0 : Bel wr wr := Bel.refl _
      clear h3 h3' c0 c0' c1 c1' c2 c2' c3 c3' c4 c4' c5 c5' h2 h2' hP hP'
      go_wp2
      go_region_held3 (fun w' => Bel wr w') (repeat (first | exact g0 | refine Bel.drew ?_ | assumption | refine bel_then (by assumption) ?_))
        (first
          | (go_at_call 48; refine (eqRoad_same l[k].fr l[k].to l[k].way l[k].time l[k].len l[k].name _).mono ?_; rintro e w' ⟨rfl, hbk⟩))
      have hH : Bel wr w' := by assumption
      go_wp2
      go_roundw
      case rel => exact ⟨k + 1, by omega, by go_num, bel_step hbel hH⟩
      case measure => simp [intOf]; omega
    · have e : k = n := by omega
      subst e
      go_wp2
      go_ret
      exact ⟨rfl, hbel⟩

end Go.Proofs.YtdlgehnoiaoneaaGreatDoor

namespace Go.Proofs.YtdlgehnoiaoneaaGreatDoor
open Go.RowKit

theorem toBan_any (x0 : Int) (x1 : Int) (w : World) :
    Calls Tryz.prog 40 #[.agg #[.int .i64 x0, .int .i64 x1]] w fun e w' => e = .returned (.agg #[.int .i64 x0, .int .i64 x1]) ∧ Bel w w' := by
  go_enter Tryz.func40, Tryz.ntmps40
  go_wp2
  exact bodyPost_ret (v := .agg #[.int .i64 x0, .int .i64 x1]) (by simp [results, Tryz.results40, go_sem]) rfl ⟨rfl, bel_alloc (bel_alloc (bel_alloc (Bel.refl _) _) _) _⟩

theorem eqBan_same (x0 : Int) (x1 : Int) (w : World) :
    Calls Tryz.prog 49 #[.agg #[.int .i64 x0, .int .i64 x1], .agg #[.int .i64 x0, .int .i64 x1]] w fun e w' => e = .returned (.bool true) ∧ Bel w w' := by
  go_enter Tryz.func49, Tryz.ntmps49
  go_wp2
  go_ret
  exact ⟨rfl, bel_alloc (bel_alloc (Bel.refl _) _) _⟩

theorem szBanS_any (a : Option Addr) (n c : Nat) (l : List BanD) (bs : List Nat) (left : Int) (w : World) (_hT : BanL w a l bs) (hn : l.length = n) (hm : n ≤ 9223372036854775807) (h0 : 0 ≤ left) (h1 : left ≤ 1048576) :
    Calls Tryz.prog 15 #[.slice a n c, .int .i64 left] w fun e w' => e = .returned (.int .i64 (szR left l.length)) ∧ Bel w w' := by
  rw [hn]
  by_cases hf : (n : Int) ≤ left
  · rw [szR_pos hf]
    go_enter Tryz.func15, Tryz.ntmps15
    go_wp2
    go_ret
    exact ⟨rfl, Bel.refl _⟩
  · rw [szR_neg hf]
    go_enter Tryz.func15, Tryz.ntmps15
    go_wp2
    go_ret
    exact ⟨rfl, Bel.refl _⟩

theorem infoBan : (Tryz.prog.info? 73).map (fun i => (i.zero, i.size, i.bytes)) = some (some (.agg #[.int .i64 0, .int .i64 0]), 2, 16) := by kernel_rfl
set_option maxHeartbeats 1000000 in
theorem toBanS_any (a : Option Addr) (n c : Nat) (l : List BanD) (bs : List Nat) (w : World) (hT : BanL w a l bs) (hn : l.length = n) (hm : n ≤ 1048576) :
    Calls Tryz.prog 21 #[.slice a n c] w fun e w' => ∃ B cs, e = .returned (.slice (some ⟨B, 0, none⟩) n n) ∧ BanL w' (some ⟨B, 0, none⟩) l cs ∧ Fresh w w' cs ∧ Bel w w' := by
  have Hn : Hid (l.length = n) := hn
  clear hn
  have hmk : ∀ w : World, (Instr.makeSlice 32 (.int .i64 n) (.int .i64 n)).run Tryz.prog w = .ok (.slice (some ⟨w.heap.size, 0, none⟩) n n) (w.alloc (.cells (madeCells #[.int .i64 0, .int .i64 0] (n * 2)) 73)) := fun w => by
    obtain ⟨i0, hi, hz0, hz1, hz2⟩ := info_parts infoBan
    have := run_make (P := Tryz.prog) w 32 73 i0 (.agg #[.int .i64 0, .int .i64 0]) Tryz.underlying32 hi hz0 .i64 .i64 n n (by omega) (by omega) (by rw [hz2]; omega) (by omega)
    rw [hz1] at this
    exact this
  go_enter Tryz.func21, Tryz.ntmps21
  go_wp2
  go_loopw [4] (fun i wr => ∃ k : Nat, k ≤ n ∧ i = .int .i64 k ∧ (∃ f, Fill 2 BanE wr w.heap.size n k l f) ∧ Bel w wr) (fun i _ => n - (intOf i).toNat)
  case atStart => exact ⟨0, Nat.zero_le _, rfl, ⟨_, Fill.start _ _ _ _ _ _⟩, bel_alloc (Bel.refl _) _⟩
  case round =>
    obtain ⟨k, hk, rfl, ⟨g, hrow⟩, hbel⟩ := hrel
    by_cases hlt : k < n
    · have hkl : k < l.length := by rw [Hn.out]; exact hlt
      obtain ⟨b, off, f, rfl, hb, hx⟩ := (hT.bel banE hbel).out hkl
      obtain ⟨_, in0, in1, c0, c1⟩ := hx k hkl
      clear hx hT
      go_wp2_with fail
      refine (toBan_any l[k].fr l[k].to _).mono ?_
      rintro e w1 ⟨rfl, hb1⟩
      have hr1 := hrow.bel banE hb1
      have hB1 : Bel w w1 := bel_step hbel hb1
      obtain ⟨v0, d50⟩ := hr1.there (k * 2) (by omega)
      have f0 := hr1.free (k * 2)
      obtain ⟨v1, d51⟩ := hr1.there (k * 2 + 1) (by omega)
      have f1 := hr1.free (k * 2 + 1)
      clear c0 c1 hb hbel
      go_wp2
      go_roundw
      case rel =>
        have S := setRow_in w.heap.size [.int .i64 l[k].fr, .int .i64 l[k].to] w1 (k * 2) (fun j hj => hr1.there _ (by simp at hj; omega))
        exact ⟨k + 1, by omega, by go_num, ⟨_, hrow.put banE hb1 hlt Hn.out (Fresh.nil _ _) [.int .i64 l[k].fr, .int .i64 l[k].to] rfl ⟨rfl, in0, in1, S 0 (by simp), S 1 (by simp)⟩⟩, setRow_bel hB1 (Nat.le_refl _) [.int .i64 l[k].fr, .int .i64 l[k].to] (k * 2)⟩
      case measure => simp [intOf]; omega
    · have e : k = n := by omega
      subst e
      go_wp2
      go_ret
      exact ⟨_, _, rfl, hrow.sl Hn.out, hrow.fresh (Nat.le_refl _), hbel⟩

set_option maxHeartbeats 1000000 in
theorem eqBanS_same (a a' : Option Addr) (n c c' : Nat) (l : List BanD) (bs bs' : List Nat) (w : World) (hP : BanL w a l bs) (hP' : BanL w a' l bs') (hn : l.length = n) (hm : n ≤ 1048576) :
    Calls Tryz.prog 28 #[.slice a n c, .slice a' n c'] w fun e w' => e = .returned (.bool true) ∧ Bel w w' := by
  have Hn : Hid (l.length = n) := hn
  clear hn
  go_enter Tryz.func28, Tryz.ntmps28
  go_wp2
  go_loopw [5] (fun i wr => ∃ k : Nat, k ≤ n ∧ i = .int .i64 k ∧ Bel w wr) (fun i _ => n - (intOf i).toNat)
  case atStart => exact ⟨0, Nat.zero_le _, rfl, Bel.refl _⟩
  case round =>
    obtain ⟨k, hk, rfl, hbel⟩ := hrel
    by_cases hlt : k < n
    · have hkl : k < l.length := by rw [Hn.out]; exact hlt
      obtain ⟨b, off, f, rfl, h2, h3⟩ := (hP.bel banE hbel).out hkl
      obtain ⟨b', off', f', rfl, h2', h3'⟩ := (hP'.bel banE hbel).out hkl
      obtain ⟨_, in0, in1, c0, c1⟩ := h3 k hkl
      obtain ⟨_, in0', in1', c0', c1'⟩ := h3' k hkl
      have hR : ∀ w', Bel wr w' → w'.cell? ⟨b, off + k * 2, none⟩ = some (.int .i64 l[k].fr) ∧ w'.cell? ⟨b, off + k * 2 + 1, none⟩ = some (.int .i64 l[k].to) ∧ w'.cell? ⟨b', off' + k * 2, none⟩ = some (.int .i64 l[k].fr) ∧ w'.cell? ⟨b', off' + k * 2 + 1, none⟩ = some (.int .i64 l[k].to) :=
        fun w' h => ⟨bel_cellM h h2 c0, bel_cellM h h2 c1, bel_cellM h h2' c0', bel_cellM h h2' c1'⟩
      have hlt' : (k : Int) < (n : Int) := by omega
      have g0 : Bel wr wr := Bel.refl _
      clear h3 h3' c0 c0' c1 c1' h2 h2' hP hP'
      go_wp2
      go_region_held3 (fun w' => Bel wr w') (repeat (first | exact g0 | refine Bel.drew ?_ | assumption | refine bel_then (by assumption) ?_))
        (first
          | (go_at_call 49; refine (eqBan_same l[k].fr l[k].to _).mono ?_; rintro e w' ⟨rfl, hbk⟩))
      have hH : Bel wr w' := by assumption
      go_wp2
      go_roundw
      case rel => exact ⟨k + 1, by omega, by go_num, bel_step hbel hH⟩
      case measure => simp [intOf]; omega
    · have e : k = n := by omega
      subst e
      go_wp2
      go_ret
      exact ⟨rfl, hbel⟩

end Go.Proofs.YtdlgehnoiaoneaaGreatDoor

namespace Go.Proofs.YtdlgehnoiaoneaaGreatDoor
open Go.RowKit

set_option maxHeartbeats 1000000 in
theorem szGraph_any (a0 : Option Addr) (n0 c0 : Nat) (l0 : List SpotD) (bs0 : List Nat) (a1 : Option Addr) (n1 c1 : Nat) (l1 : List RoadD) (bs1 : List Nat) (a2 : Option Addr) (n2 c2 : Nat) (l2 : List BanD) (bs2 : List Nat) (left : Int) (w : World) (t0 : SpotL w a0 l0 bs0) (e0 : l0.length = n0) (t1 : RoadL w a1 l1 bs1) (e1 : l1.length = n1) (t2 : BanL w a2 l2 bs2) (e2 : l2.length = n2) (m0 : n0 ≤ 9223372036854775807) (m1 : n1 ≤ 9223372036854775807) (m2 : n2 ≤ 9223372036854775807) (h0 : 0 ≤ left) (h1 : left ≤ 1048576) :
    Calls Tryz.prog 4 #[.agg #[.slice a0 n0 c0, .slice a1 n1 c1, .slice a2 n2 c2], .int .i64 left] w fun e w' => e = .returned (.int .i64 (szR left (l0.length + roadsSz l1 + l2.length))) ∧ Bel w w' := by
  obtain ⟨r0, H0⟩ : ∃ r, Hid (szR left (l0.length) = r) := ⟨_, (rfl : szR left (l0.length) = _)⟩
  have b0 : r0 ≤ 1048576 := by rw [← H0.out]; exact (szR_bd h1).1
  obtain ⟨r1, H1⟩ : ∃ r, Hid (szR r0 (roadsSz l1) = r) := ⟨_, (rfl : szR r0 (roadsSz l1) = _)⟩
  have b1 : r1 ≤ 1048576 := by rw [← H1.out]; exact (szR_bd b0).1
  obtain ⟨r2, H2⟩ : ∃ r, Hid (szR r1 (l2.length) = r) := ⟨_, (rfl : szR r1 (l2.length) = _)⟩
  have b2 : r2 ≤ 1048576 := by rw [← H2.out]; exact (szR_bd b1).1
  by_cases p0 : 0 ≤ r0
  · have q0 : szR left (l0.length) = r0 := H0.out
    have Q0 : Hid (szR left (l0.length) = r0) := q0
    by_cases p1 : 0 ≤ r1
    · have q1 : szR left (l0.length + roadsSz l1) = r1 := by rw [← szR_add (by rw [q0]; exact p0), q0]; exact H1.out
      have Q1 : Hid (szR left (l0.length + roadsSz l1) = r1) := q1
      by_cases p2 : 0 ≤ r2
      · have q2 : szR left (l0.length + roadsSz l1 + l2.length) = r2 := by rw [← szR_add (by rw [q1]; exact p1), q1]; exact H2.out
        have Q2 : Hid (szR left (l0.length + roadsSz l1 + l2.length) = r2) := q2
        clear q0 q1 q2
        go_enter Tryz.func4, Tryz.ntmps4
        go_wp2_with (first | (go_at_call 13; refine (szSpotS_any _ _ _ l0 bs0 _ _ (t0.bel spotE (bel_alloc (Bel.refl _) _)) e0 m0 h0 h1).mono ?_; rintro e w0 ⟨rfl, hb0⟩; have B0 := bel_step (bel_alloc (Bel.refl w) _) hb0; obtain ⟨hc0, _, hz0⟩ := bcell hb0; rw [H0.out]) | (go_at_call 14; refine (szRoadS_any _ _ _ l1 bs1 _ _ (t1.bel roadE (B0)) e1 m1 p0 b0).mono ?_; rintro e w1 ⟨rfl, hb1⟩; have B1 := bel_step B0 hb1; obtain ⟨hc1, _, hz1⟩ := bcell hb1; rw [H1.out]) | (go_at_call 15; refine (szBanS_any _ _ _ l2 bs2 _ _ (t2.bel banE (B1)) e2 m2 p1 b1).mono ?_; rintro e w2 ⟨rfl, hb2⟩; have B2 := bel_step B1 hb2; obtain ⟨hc2, _, hz2⟩ := bcell hb2; rw [H2.out]))
        go_ret
        exact ⟨ret_num Q2.out.symm, by assumption⟩
      · have q2 : szR left (l0.length + roadsSz l1 + l2.length) = r2 := by rw [← szR_add (by rw [q1]; exact p1), q1]; exact H2.out
        have Q : Hid (szR left (l0.length + roadsSz l1 + l2.length) = -1) := (by have := szR_bd (s := l0.length + roadsSz l1 + l2.length) h1; rw [q2] at this ⊢; omega : szR left (l0.length + roadsSz l1 + l2.length) = -1)
        clear q0 q1 q2
        go_enter Tryz.func4, Tryz.ntmps4
        go_wp2_with (first | (go_at_call 13; refine (szSpotS_any _ _ _ l0 bs0 _ _ (t0.bel spotE (bel_alloc (Bel.refl _) _)) e0 m0 h0 h1).mono ?_; rintro e w0 ⟨rfl, hb0⟩; have B0 := bel_step (bel_alloc (Bel.refl w) _) hb0; obtain ⟨hc0, _, hz0⟩ := bcell hb0; rw [H0.out]) | (go_at_call 14; refine (szRoadS_any _ _ _ l1 bs1 _ _ (t1.bel roadE (B0)) e1 m1 p0 b0).mono ?_; rintro e w1 ⟨rfl, hb1⟩; have B1 := bel_step B0 hb1; obtain ⟨hc1, _, hz1⟩ := bcell hb1; rw [H1.out]) | (go_at_call 15; refine (szBanS_any _ _ _ l2 bs2 _ _ (t2.bel banE (B1)) e2 m2 p1 b1).mono ?_; rintro e w2 ⟨rfl, hb2⟩; have B2 := bel_step B1 hb2; obtain ⟨hc2, _, hz2⟩ := bcell hb2; rw [H2.out]))
        go_ret
        exact ⟨ret_num Q.out.symm, by assumption⟩
    · have q1 : szR left (l0.length + roadsSz l1) = r1 := by rw [← szR_add (by rw [q0]; exact p0), q0]; exact H1.out
      have Q : Hid (szR left (l0.length + roadsSz l1 + l2.length) = -1) := szR_out (by rw [q1]; omega)
      clear q0 q1
      go_enter Tryz.func4, Tryz.ntmps4
      go_wp2_with (first | (go_at_call 13; refine (szSpotS_any _ _ _ l0 bs0 _ _ (t0.bel spotE (bel_alloc (Bel.refl _) _)) e0 m0 h0 h1).mono ?_; rintro e w0 ⟨rfl, hb0⟩; have B0 := bel_step (bel_alloc (Bel.refl w) _) hb0; obtain ⟨hc0, _, hz0⟩ := bcell hb0; rw [H0.out]) | (go_at_call 14; refine (szRoadS_any _ _ _ l1 bs1 _ _ (t1.bel roadE (B0)) e1 m1 p0 b0).mono ?_; rintro e w1 ⟨rfl, hb1⟩; have B1 := bel_step B0 hb1; obtain ⟨hc1, _, hz1⟩ := bcell hb1; rw [H1.out]))
      go_ret
      exact ⟨ret_num Q.out.symm, by assumption⟩
  · have q0 : szR left (l0.length) = r0 := H0.out
    have Q : Hid (szR left (l0.length + roadsSz l1 + l2.length) = -1) := by rw [Nat.add_assoc]; exact szR_out (by rw [q0]; omega)
    clear q0
    go_enter Tryz.func4, Tryz.ntmps4
    go_wp2_with (first | (go_at_call 13; refine (szSpotS_any _ _ _ l0 bs0 _ _ (t0.bel spotE (bel_alloc (Bel.refl _) _)) e0 m0 h0 h1).mono ?_; rintro e w0 ⟨rfl, hb0⟩; have B0 := bel_step (bel_alloc (Bel.refl w) _) hb0; obtain ⟨hc0, _, hz0⟩ := bcell hb0; rw [H0.out]))
    go_ret
    exact ⟨ret_num Q.out.symm, by assumption⟩

set_option maxHeartbeats 1000000 in
theorem toGraph_any (a0 : Option Addr) (n0 c0 : Nat) (l0 : List SpotD) (bs0 : List Nat) (a1 : Option Addr) (n1 c1 : Nat) (l1 : List RoadD) (bs1 : List Nat) (a2 : Option Addr) (n2 c2 : Nat) (l2 : List BanD) (bs2 : List Nat) (w : World) (t0 : SpotL w a0 l0 bs0) (e0 : l0.length = n0) (t1 : RoadL w a1 l1 bs1) (e1 : l1.length = n1) (t2 : BanL w a2 l2 bs2) (e2 : l2.length = n2) (m0 : n0 ≤ 1048576) (m1 : n1 ≤ 1048576) (m2 : n2 ≤ 1048576) :
    Calls Tryz.prog 6 #[.agg #[.slice a0 n0 c0, .slice a1 n1 c1, .slice a2 n2 c2]] w fun e w' => ∃ B0 d0 B1 d1 B2 d2, e = .returned (.agg #[.slice (some ⟨B0, 0, none⟩) n0 n0, .slice (some ⟨B1, 0, none⟩) n1 n1, .slice (some ⟨B2, 0, none⟩) n2 n2]) ∧ SpotL w' (some ⟨B0, 0, none⟩) l0 d0 ∧ RoadL w' (some ⟨B1, 0, none⟩) l1 d1 ∧ BanL w' (some ⟨B2, 0, none⟩) l2 d2 ∧ Fresh w w' (d0 ++ (d1 ++ d2)) ∧ Bel w w' := by
  have E0 : Hid (l0.length = n0) := e0
  have E1 : Hid (l1.length = n1) := e1
  have E2 : Hid (l2.length = n2) := e2
  clear e0 e1 e2
  go_enter Tryz.func6, Tryz.ntmps6
  have S0 : Bel w (((w.alloc (.cells #[.slice a0 n0 c0, .slice a1 n1 c1, .slice a2 n2 c2] 26)).alloc (.cells #[.slice none 0 0, .slice none 0 0, .slice none 0 0] 34)).alloc (.cells #[.slice none 0 0, .slice none 0 0, .slice none 0 0] 34)) := bel_alloc (bel_alloc (bel_alloc (Bel.refl _) _) _) _
  have X0 : Blk (((w.alloc (.cells #[.slice a0 n0 c0, .slice a1 n1 c1, .slice a2 n2 c2] 26)).alloc (.cells #[.slice none 0 0, .slice none 0 0, .slice none 0 0] 34)).alloc (.cells #[.slice none 0 0, .slice none 0 0, .slice none 0 0] 34)) (w.heap.size) [.slice a0 n0 c0, .slice a1 n1 c1, .slice a2 n2 c2] := (Blk.new w [.slice a0 n0 c0, .slice a1 n1 c1, .slice a2 n2 c2] 26).bel (bel_alloc (bel_alloc (Bel.refl _) _) _)
  have R0 : Blk (((w.alloc (.cells #[.slice a0 n0 c0, .slice a1 n1 c1, .slice a2 n2 c2] 26)).alloc (.cells #[.slice none 0 0, .slice none 0 0, .slice none 0 0] 34)).alloc (.cells #[.slice none 0 0, .slice none 0 0, .slice none 0 0] 34)) (w.heap.size + 1) [.slice none 0 0, .slice none 0 0, .slice none 0 0] := (Blk.new1 w _ [.slice none 0 0, .slice none 0 0, .slice none 0 0] 34).bel (bel_alloc (Bel.refl _) _)
  have O0 : Blk (((w.alloc (.cells #[.slice a0 n0 c0, .slice a1 n1 c1, .slice a2 n2 c2] 26)).alloc (.cells #[.slice none 0 0, .slice none 0 0, .slice none 0 0] 34)).alloc (.cells #[.slice none 0 0, .slice none 0 0, .slice none 0 0] 34)) (w.heap.size + 1 + 1) [.slice none 0 0, .slice none 0 0, .slice none 0 0] := Blk.new2 w _ _ [.slice none 0 0, .slice none 0 0, .slice none 0 0] 34
  have y0 : w.heap.size + 3 ≤ (((w.alloc (.cells #[.slice a0 n0 c0, .slice a1 n1 c1, .slice a2 n2 c2] 26)).alloc (.cells #[.slice none 0 0, .slice none 0 0, .slice none 0 0] 34)).alloc (.cells #[.slice none 0 0, .slice none 0 0, .slice none 0 0] 34)).heap.size := by simp
  go_wp2_with fail
  refine (toSpotS_any _ _ _ l0 bs0 _ (t0.bel spotE S0) E0.out m0).mono ?_
  rintro e w1 ⟨B0, d0, rfl, u0, f0, hb1⟩
  have V1 := bel_step S0 hb1
  have X1 := X0.bel hb1
  have R1 := R0.bel hb1
  have O1 := O0.bel hb1
  have z1 : w.heap.size + 3 ≤ w1.heap.size := Nat.le_trans y0 hb1.out.size
  have x10 : w1.cell? ⟨w.heap.size, 0, none⟩ = some (.slice a0 n0 c0) := X1.cell 0 (by simp)
  have r10 : w1.cell? ⟨w.heap.size + 1, 0, none⟩ = some (.slice none 0 0) := R1.cell 0 (by simp)
  have o10 : w1.cell? ⟨w.heap.size + 1 + 1, 0, none⟩ = some (.slice none 0 0) := O1.cell 0 (by simp)
  have x11 : w1.cell? ⟨w.heap.size, 1, none⟩ = some (.slice a1 n1 c1) := X1.cell 1 (by simp)
  have r11 : w1.cell? ⟨w.heap.size + 1, 1, none⟩ = some (.slice none 0 0) := R1.cell 1 (by simp)
  have o11 : w1.cell? ⟨w.heap.size + 1 + 1, 1, none⟩ = some (.slice none 0 0) := O1.cell 1 (by simp)
  have x12 : w1.cell? ⟨w.heap.size, 2, none⟩ = some (.slice a2 n2 c2) := X1.cell 2 (by simp)
  have r12 : w1.cell? ⟨w.heap.size + 1, 2, none⟩ = some (.slice none 0 0) := R1.cell 2 (by simp)
  have o12 : w1.cell? ⟨w.heap.size + 1 + 1, 2, none⟩ = some (.slice none 0 0) := O1.cell 2 (by simp)
  have g1 := X1.free
  have gr1 := R1.free
  have go1 := O1.free
  have S1 : Bel w ((w1).setCell ⟨w.heap.size + 1 + 1, 0, none⟩ (.slice (some ⟨B0, 0, none⟩) n0 n0)) := bel_set (V1) (by show w.heap.size ≤ w.heap.size + 1 + 1; omega) _
  have O1 : Blk ((w1).setCell ⟨w.heap.size + 1 + 1, 0, none⟩ (.slice (some ⟨B0, 0, none⟩) n0 n0)) (w.heap.size + 1 + 1) [.slice (some ⟨B0, 0, none⟩) n0 n0, .slice none 0 0, .slice none 0 0] := (O1).set 0 (.slice (some ⟨B0, 0, none⟩) n0 n0) (by simp)
  have X1 : Blk ((w1).setCell ⟨w.heap.size + 1 + 1, 0, none⟩ (.slice (some ⟨B0, 0, none⟩) n0 n0)) (w.heap.size) [.slice a0 n0 c0, .slice a1 n1 c1, .slice a2 n2 c2] := (X1).far (by omega)
  have R1 : Blk ((w1).setCell ⟨w.heap.size + 1 + 1, 0, none⟩ (.slice (some ⟨B0, 0, none⟩) n0 n0)) (w.heap.size + 1) [.slice none 0 0, .slice none 0 0, .slice none 0 0] := (R1).far (by omega)
  have y1 : w.heap.size + 3 ≤ ((w1).setCell ⟨w.heap.size + 1 + 1, 0, none⟩ (.slice (some ⟨B0, 0, none⟩) n0 n0)).heap.size := by simpa [World.setCell] using z1
  have b1 : Abv (w.heap.size + 3) w1 ((w1).setCell ⟨w.heap.size + 1 + 1, 0, none⟩ (.slice (some ⟨B0, 0, none⟩) n0 n0)) := (Abv.refl (w.heap.size + 3) w1).set (by omega) _
  have k1 : w1.heap.size ≤ ((w1).setCell ⟨w.heap.size + 1 + 1, 0, none⟩ (.slice (some ⟨B0, 0, none⟩) n0 n0)).heap.size := b1.1
  go_wp2_with fail
  refine (toRoadS_any _ _ _ l1 bs1 _ (t1.bel roadE S1) E1.out m1).mono ?_
  rintro e w2 ⟨B1, d1, rfl, u1, f1, hb2⟩
  have V2 := bel_step S1 hb2
  have X2 := X1.bel hb2
  have R2 := R1.bel hb2
  have O2 := O1.bel hb2
  have z2 : w.heap.size + 3 ≤ w2.heap.size := Nat.le_trans y1 hb2.out.size
  have x20 : w2.cell? ⟨w.heap.size, 0, none⟩ = some (.slice a0 n0 c0) := X2.cell 0 (by simp)
  have r20 : w2.cell? ⟨w.heap.size + 1, 0, none⟩ = some (.slice none 0 0) := R2.cell 0 (by simp)
  have o20 : w2.cell? ⟨w.heap.size + 1 + 1, 0, none⟩ = some (.slice (some ⟨B0, 0, none⟩) n0 n0) := O2.cell 0 (by simp)
  have x21 : w2.cell? ⟨w.heap.size, 1, none⟩ = some (.slice a1 n1 c1) := X2.cell 1 (by simp)
  have r21 : w2.cell? ⟨w.heap.size + 1, 1, none⟩ = some (.slice none 0 0) := R2.cell 1 (by simp)
  have o21 : w2.cell? ⟨w.heap.size + 1 + 1, 1, none⟩ = some (.slice none 0 0) := O2.cell 1 (by simp)
  have x22 : w2.cell? ⟨w.heap.size, 2, none⟩ = some (.slice a2 n2 c2) := X2.cell 2 (by simp)
  have r22 : w2.cell? ⟨w.heap.size + 1, 2, none⟩ = some (.slice none 0 0) := R2.cell 2 (by simp)
  have o22 : w2.cell? ⟨w.heap.size + 1 + 1, 2, none⟩ = some (.slice none 0 0) := O2.cell 2 (by simp)
  have g2 := X2.free
  have gr2 := R2.free
  have go2 := O2.free
  have S2 : Bel w ((w2).setCell ⟨w.heap.size + 1 + 1, 1, none⟩ (.slice (some ⟨B1, 0, none⟩) n1 n1)) := bel_set (V2) (by show w.heap.size ≤ w.heap.size + 1 + 1; omega) _
  have O2 : Blk ((w2).setCell ⟨w.heap.size + 1 + 1, 1, none⟩ (.slice (some ⟨B1, 0, none⟩) n1 n1)) (w.heap.size + 1 + 1) [.slice (some ⟨B0, 0, none⟩) n0 n0, .slice (some ⟨B1, 0, none⟩) n1 n1, .slice none 0 0] := (O2).set 1 (.slice (some ⟨B1, 0, none⟩) n1 n1) (by simp)
  have X2 : Blk ((w2).setCell ⟨w.heap.size + 1 + 1, 1, none⟩ (.slice (some ⟨B1, 0, none⟩) n1 n1)) (w.heap.size) [.slice a0 n0 c0, .slice a1 n1 c1, .slice a2 n2 c2] := (X2).far (by omega)
  have R2 : Blk ((w2).setCell ⟨w.heap.size + 1 + 1, 1, none⟩ (.slice (some ⟨B1, 0, none⟩) n1 n1)) (w.heap.size + 1) [.slice none 0 0, .slice none 0 0, .slice none 0 0] := (R2).far (by omega)
  have y2 : w.heap.size + 3 ≤ ((w2).setCell ⟨w.heap.size + 1 + 1, 1, none⟩ (.slice (some ⟨B1, 0, none⟩) n1 n1)).heap.size := by simpa [World.setCell] using z2
  have b2 : Abv (w.heap.size + 3) w2 ((w2).setCell ⟨w.heap.size + 1 + 1, 1, none⟩ (.slice (some ⟨B1, 0, none⟩) n1 n1)) := (Abv.refl (w.heap.size + 3) w2).set (by omega) _
  have k2 : w2.heap.size ≤ ((w2).setCell ⟨w.heap.size + 1 + 1, 1, none⟩ (.slice (some ⟨B1, 0, none⟩) n1 n1)).heap.size := b2.1
  go_wp2_with fail
  refine (toBanS_any _ _ _ l2 bs2 _ (t2.bel banE S2) E2.out m2).mono ?_
  rintro e w3 ⟨B2, d2, rfl, u2, f2, hb3⟩
  have V3 := bel_step S2 hb3
  have X3 := X2.bel hb3
  have R3 := R2.bel hb3
  have O3 := O2.bel hb3
  have z3 : w.heap.size + 3 ≤ w3.heap.size := Nat.le_trans y2 hb3.out.size
  have x30 : w3.cell? ⟨w.heap.size, 0, none⟩ = some (.slice a0 n0 c0) := X3.cell 0 (by simp)
  have r30 : w3.cell? ⟨w.heap.size + 1, 0, none⟩ = some (.slice none 0 0) := R3.cell 0 (by simp)
  have o30 : w3.cell? ⟨w.heap.size + 1 + 1, 0, none⟩ = some (.slice (some ⟨B0, 0, none⟩) n0 n0) := O3.cell 0 (by simp)
  have x31 : w3.cell? ⟨w.heap.size, 1, none⟩ = some (.slice a1 n1 c1) := X3.cell 1 (by simp)
  have r31 : w3.cell? ⟨w.heap.size + 1, 1, none⟩ = some (.slice none 0 0) := R3.cell 1 (by simp)
  have o31 : w3.cell? ⟨w.heap.size + 1 + 1, 1, none⟩ = some (.slice (some ⟨B1, 0, none⟩) n1 n1) := O3.cell 1 (by simp)
  have x32 : w3.cell? ⟨w.heap.size, 2, none⟩ = some (.slice a2 n2 c2) := X3.cell 2 (by simp)
  have r32 : w3.cell? ⟨w.heap.size + 1, 2, none⟩ = some (.slice none 0 0) := R3.cell 2 (by simp)
  have o32 : w3.cell? ⟨w.heap.size + 1 + 1, 2, none⟩ = some (.slice none 0 0) := O3.cell 2 (by simp)
  have g3 := X3.free
  have gr3 := R3.free
  have go3 := O3.free
  have c0 : Abv (w.heap.size + 3) w1 w3 := ((b1.bel hb2).trans b2).bel hb3
  have q0 := f0.abv y0 c0
  have F0 : Fresh w w3 d0 := q0.old (Nat.le_trans (Nat.le_add_right _ 3) y0)
  have c1 : Abv (w.heap.size + 3) w2 w3 := b2.bel hb3
  have q1 := f1.abv y1 c1
  have F1 : Fresh w w3 d1 := q1.old (Nat.le_trans (Nat.le_add_right _ 3) y1)
  have c2 : Abv (w.heap.size + 3) w3 w3 := Abv.refl _ _
  have q2 := f2.abv y2 c2
  have F2 : Fresh w w3 d2 := q2.old (Nat.le_trans (Nat.le_add_right _ 3) y2)
  have e21 := hb2.out.size
  have FG := F1.app F2 fun x hx hx' => by have h1 := (f1.new x hx).2; have h2 := (f2.new x hx').1; omega
  have FF := F0.app FG fun x hx hx' => by
    have h1 := (f0.new x hx).2
    rcases List.mem_append.1 hx' with h | h
    · have h2 := (f1.new x h).1; omega
    · have h2 := (f2.new x h).1; omega
  have HN : ∀ x ∈ d0 ++ (d1 ++ d2), w.heap.size + 3 ≤ x := fun x hx => (List.mem_append.1 hx).elim (fun h => Nat.le_trans y0 (f0.new x h).1) (fun h => (List.mem_append.1 h).elim (fun h => Nat.le_trans y1 (f1.new x h).1) (fun h => Nat.le_trans y2 (f2.new x h).1))
  have hA : ∀ W, Abv (w.heap.size + 3) w3 W → Bel w W → SpotL W (some ⟨B0, 0, none⟩) l0 d0 ∧ RoadL W (some ⟨B1, 0, none⟩) l1 d1 ∧ BanL W (some ⟨B2, 0, none⟩) l2 d2 ∧ Fresh w W (d0 ++ (d1 ++ d2)) ∧ Bel w W := fun W h hb => ⟨u0.abv spotE f0 y0 (c0.trans h), u1.abv roadE f1 y1 (c1.trans h), u2.abv banE f2 y2 (c2.trans h), FF.abv0 (fun x hx => HN x hx) h, hb⟩
  go_wp2
  refine bodyPost_ret (v := .agg #[.slice (some ⟨B0, 0, none⟩) n0 n0, .slice (some ⟨B1, 0, none⟩) n1 n1, .slice (some ⟨B2, 0, none⟩) n2 n2]) (by simp [results, Tryz.results6, go_sem, r30, r31, r32]) rfl ?_
  clear x30 r30 o30 x31 r31 o31 x32 r32 o32
  refine ⟨B0, d0, B1, d1, B2, d2, rfl, hA _ ?_ ?_⟩
  · with_reducible repeat (first | exact Abv.refl _ _ | refine Abv.set ?_ (by omega) _)
  · (with_reducible repeat (first | exact V3 | refine bel_set ?_ ?_ _)) <;> simp <;> omega

set_option maxHeartbeats 1000000 in
theorem eqGraph_same (a0 : Option Addr) (n0 c0 : Nat) (l0 : List SpotD) (bs0 : List Nat) (a1 : Option Addr) (n1 c1 : Nat) (l1 : List RoadD) (bs1 : List Nat) (a2 : Option Addr) (n2 c2 : Nat) (l2 : List BanD) (bs2 : List Nat) (a0' : Option Addr) (c0' : Nat) (bs0' : List Nat) (a1' : Option Addr) (c1' : Nat) (bs1' : List Nat) (a2' : Option Addr) (c2' : Nat) (bs2' : List Nat) (w : World) (t0 : SpotL w a0 l0 bs0) (e0 : l0.length = n0) (t1 : RoadL w a1 l1 bs1) (e1 : l1.length = n1) (t2 : BanL w a2 l2 bs2) (e2 : l2.length = n2) (t0' : SpotL w a0' l0 bs0') (t1' : RoadL w a1' l1 bs1') (t2' : BanL w a2' l2 bs2') (m0 : n0 ≤ 1048576) (m1 : n1 ≤ 1048576) (m2 : n2 ≤ 1048576) :
    Calls Tryz.prog 9 #[.agg #[.slice a0 n0 c0, .slice a1 n1 c1, .slice a2 n2 c2], .agg #[.slice a0' n0 c0', .slice a1' n1 c1', .slice a2' n2 c2']] w fun e w' => e = .returned (.bool true) ∧ Bel w w' := by
  have S0 : Bel w ((w.alloc (.cells #[.slice a0 n0 c0, .slice a1 n1 c1, .slice a2 n2 c2] 34)).alloc (.cells #[.slice a0' n0 c0', .slice a1' n1 c1', .slice a2' n2 c2'] 34)) := bel_alloc (bel_alloc (Bel.refl _) _) _
  have X0 : Blk ((w.alloc (.cells #[.slice a0 n0 c0, .slice a1 n1 c1, .slice a2 n2 c2] 34)).alloc (.cells #[.slice a0' n0 c0', .slice a1' n1 c1', .slice a2' n2 c2'] 34)) w.heap.size [.slice a0 n0 c0, .slice a1 n1 c1, .slice a2 n2 c2] := (Blk.new w [.slice a0 n0 c0, .slice a1 n1 c1, .slice a2 n2 c2] 34).bel (bel_alloc (Bel.refl _) _)
  have Y0 : Blk ((w.alloc (.cells #[.slice a0 n0 c0, .slice a1 n1 c1, .slice a2 n2 c2] 34)).alloc (.cells #[.slice a0' n0 c0', .slice a1' n1 c1', .slice a2' n2 c2'] 34)) (w.heap.size + 1) [.slice a0' n0 c0', .slice a1' n1 c1', .slice a2' n2 c2'] := Blk.new1 w _ [.slice a0' n0 c0', .slice a1' n1 c1', .slice a2' n2 c2'] 34
  go_enter Tryz.func9, Tryz.ntmps9
  go_wp2_with fail
  refine (eqSpotS_same _ _ _ _ _ l0 bs0 bs0' _ (t0.bel spotE S0) (t0'.bel spotE S0) e0 m0).mono ?_
  rintro e w1 ⟨rfl, hb1⟩
  have S1 := bel_step S0 hb1
  have X1 := X0.bel hb1
  have Y1 := Y0.bel hb1
  have x10 : w1.cell? ⟨w.heap.size, 0, none⟩ = some (.slice a0 n0 c0) := X1.cell 0 (by simp)
  have y10 : w1.cell? ⟨w.heap.size + 1, 0, none⟩ = some (.slice a0' n0 c0') := Y1.cell 0 (by simp)
  have x11 : w1.cell? ⟨w.heap.size, 1, none⟩ = some (.slice a1 n1 c1) := X1.cell 1 (by simp)
  have y11 : w1.cell? ⟨w.heap.size + 1, 1, none⟩ = some (.slice a1' n1 c1') := Y1.cell 1 (by simp)
  have x12 : w1.cell? ⟨w.heap.size, 2, none⟩ = some (.slice a2 n2 c2) := X1.cell 2 (by simp)
  have y12 : w1.cell? ⟨w.heap.size + 1, 2, none⟩ = some (.slice a2' n2 c2') := Y1.cell 2 (by simp)
  go_wp2_with fail
  refine (eqRoadS_same _ _ _ _ _ l1 bs1 bs1' _ (t1.bel roadE S1) (t1'.bel roadE S1) e1 m1).mono ?_
  rintro e w2 ⟨rfl, hb2⟩
  have S2 := bel_step S1 hb2
  have X2 := X1.bel hb2
  have Y2 := Y1.bel hb2
  have x20 : w2.cell? ⟨w.heap.size, 0, none⟩ = some (.slice a0 n0 c0) := X2.cell 0 (by simp)
  have y20 : w2.cell? ⟨w.heap.size + 1, 0, none⟩ = some (.slice a0' n0 c0') := Y2.cell 0 (by simp)
  have x21 : w2.cell? ⟨w.heap.size, 1, none⟩ = some (.slice a1 n1 c1) := X2.cell 1 (by simp)
  have y21 : w2.cell? ⟨w.heap.size + 1, 1, none⟩ = some (.slice a1' n1 c1') := Y2.cell 1 (by simp)
  have x22 : w2.cell? ⟨w.heap.size, 2, none⟩ = some (.slice a2 n2 c2) := X2.cell 2 (by simp)
  have y22 : w2.cell? ⟨w.heap.size + 1, 2, none⟩ = some (.slice a2' n2 c2') := Y2.cell 2 (by simp)
  go_wp2_with fail
  refine (eqBanS_same _ _ _ _ _ l2 bs2 bs2' _ (t2.bel banE S2) (t2'.bel banE S2) e2 m2).mono ?_
  rintro e w3 ⟨rfl, hb3⟩
  have S3 := bel_step S2 hb3
  go_wp2
  go_ret
  exact ⟨rfl, S3⟩

end Go.Proofs.YtdlgehnoiaoneaaGreatDoor

namespace Go.Proofs.YtdlgehnoiaoneaaGreatDoor
open Go.RowKit

def graphSz (g : GraphD) : Nat := g.places.length + roadsSz g.roads + g.bans.length
theorem gphQ_of {g : GraphD} (h : graphSz g ≤ 1048576) : GphQ g := by
  unfold graphSz roadsSz at h
  exact ⟨by omega, by omega, by omega⟩
theorem szGraph_v (v : Value) (g : GraphD) (bs : List Nat) (left : Int) (w : World) (hV : GphV w v g bs) (hN : GphN g) (h0 : 0 ≤ left) (h1 : left ≤ 1048576) :
    Calls Tryz.prog 4 #[v, .int .i64 left] w fun e w' => e = .returned (.int .i64 (szR left (graphSz g))) ∧ Bel w w' := by
  obtain ⟨a0, c0, a1, c1, a2, c2, b0, b1, b2, _, rfl, t0, t1, t2⟩ := hV
  obtain ⟨k0, k1, k2⟩ := hN
  unfold maxLen at k0 k1 k2
  exact szGraph_any _ _ _ g.places b0 _ _ _ g.roads b1 _ _ _ g.bans b2 left w t0 rfl t1 rfl t2 rfl k0 k1 k2 h0 h1
theorem toGraph_v (v : Value) (g : GraphD) (bs : List Nat) (w : World) (hV : GphV w v g bs) (hQ : GphQ g) :
    Calls Tryz.prog 6 #[v] w fun e w' => ∃ v' bs', e = .returned v' ∧ GphV w' v' g bs' ∧ Fresh w w' bs' ∧ Bel w w' := by
  obtain ⟨a0, c0, a1, c1, a2, c2, b0, b1, b2, _, rfl, t0, t1, t2⟩ := hV
  refine (toGraph_any _ _ _ g.places b0 _ _ _ g.roads b1 _ _ _ g.bans b2 w t0 rfl t1 rfl t2 rfl hQ.1 hQ.2.1 hQ.2.2).mono ?_
  rintro e w' ⟨B0, d0, B1, d1, B2, d2, rfl, h0, h1, h2, hF, hb⟩
  exact ⟨_, _, rfl, ⟨_, _, _, _, _, _, d0, d1, d2, rfl, rfl, h0, h1, h2⟩, hF, hb⟩
theorem eqGraph_v (v v' : Value) (g : GraphD) (bs bs' : List Nat) (w : World) (hV : GphV w v g bs) (hV' : GphV w v' g bs') (hQ : GphQ g) :
    Calls Tryz.prog 9 #[v, v'] w fun e w' => e = .returned (.bool true) ∧ Bel w w' := by
  obtain ⟨a0, c0, a1, c1, a2, c2, b0, b1, b2, _, rfl, t0, t1, t2⟩ := hV
  obtain ⟨a0', c0', a1', c1', a2', c2', b0', b1', b2', _, rfl, t0', t1', t2'⟩ := hV'
  exact eqGraph_same _ _ _ g.places b0 _ _ _ g.roads b1 _ _ _ g.bans b2 _ _ b0' _ _ b1' _ _ b2' w t0 rfl t1 rfl t2 rfl t0' t1' t2' hQ.1 hQ.2.1 hQ.2.2
end Go.Proofs.YtdlgehnoiaoneaaGreatDoor
