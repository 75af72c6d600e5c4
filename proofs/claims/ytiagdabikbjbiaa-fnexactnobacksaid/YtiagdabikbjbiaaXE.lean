/-
  Contracts of the laws' own functions on Spot data: counted, copied, held against each other.
  Contracts of the laws' own functions on Road data: counted, copied, held against each other.
  Contracts of the laws' own functions on Ban data: counted, copied, held against each other.
-/
import Derived.Test.YtiagdabikbjbiaaXA
import Derived.Test.YtiagdabikbjbiaaXC
import Derived.Deep.LoopGhost
import Derived.OwnWalk
import Derived.Deep.RegionHeld3
namespace Go.Proofs.Ytiagdabikbjbiaa
open Go.RowKit

theorem toSpot_any (x0 x1 x2 : Int) (w : World) :
    Calls Try.prog 51 #[.agg #[.int .i64 x0, .int .i64 x1, .int .i64 x2]] w fun e w' => e = .returned (.agg #[.int .i64 x0, .int .i64 x1, .int .i64 x2]) ∧ Bel w w' := by
  have S0 : Bel w (((w.alloc (.cells #[.int .i64 x0, .int .i64 x1, .int .i64 x2] 90)).alloc (.cells #[.int .i64 0, .int .i64 0, .int .i64 0] 83)).alloc (.cells #[.int .i64 x0, .int .i64 0, .int .i64 0] 83)) := bel_alloc (bel_alloc (bel_alloc (Bel.refl _) _) _) _
  have X0 : Blk (((w.alloc (.cells #[.int .i64 x0, .int .i64 x1, .int .i64 x2] 90)).alloc (.cells #[.int .i64 0, .int .i64 0, .int .i64 0] 83)).alloc (.cells #[.int .i64 x0, .int .i64 0, .int .i64 0] 83)) (w.heap.size) [.int .i64 x0, .int .i64 x1, .int .i64 x2] := (Blk.new w [.int .i64 x0, .int .i64 x1, .int .i64 x2] 90).bel (bel_alloc (bel_alloc (Bel.refl _) _) _)
  have R0 : Blk (((w.alloc (.cells #[.int .i64 x0, .int .i64 x1, .int .i64 x2] 90)).alloc (.cells #[.int .i64 0, .int .i64 0, .int .i64 0] 83)).alloc (.cells #[.int .i64 x0, .int .i64 0, .int .i64 0] 83)) (w.heap.size + 1) [.int .i64 0, .int .i64 0, .int .i64 0] := (Blk.new1 w _ [.int .i64 0, .int .i64 0, .int .i64 0] 83).bel (bel_alloc (Bel.refl _) _)
  have O0 : Blk (((w.alloc (.cells #[.int .i64 x0, .int .i64 x1, .int .i64 x2] 90)).alloc (.cells #[.int .i64 0, .int .i64 0, .int .i64 0] 83)).alloc (.cells #[.int .i64 x0, .int .i64 0, .int .i64 0] 83)) (w.heap.size + 1 + 1) [.int .i64 x0, .int .i64 0, .int .i64 0] := Blk.new2 w _ _ [.int .i64 x0, .int .i64 0, .int .i64 0] 83
  have y0 : w.heap.size + 3 ≤ (((w.alloc (.cells #[.int .i64 x0, .int .i64 x1, .int .i64 x2] 90)).alloc (.cells #[.int .i64 0, .int .i64 0, .int .i64 0] 83)).alloc (.cells #[.int .i64 x0, .int .i64 0, .int .i64 0] 83)).heap.size := by simp
  go_enter Try.func51, Try.ntmps51
  go_wp2_with fail
  refine (toPoint_any _ _ _).mono ?_
  rintro e w1 ⟨rfl, hb1⟩
  have V1 := bel_step S0 hb1
  have X1 := X0.bel hb1
  have R1 := R0.bel hb1
  have O1 := O0.bel hb1
  have z1 : w.heap.size + 3 ≤ w1.heap.size := Nat.le_trans y0 hb1.out.size
  have x10 : w1.cell? ⟨w.heap.size, 0, none⟩ = some (.int .i64 x0) := X1.cell 0 (by simp)
  have r10 : w1.cell? ⟨w.heap.size + 1, 0, none⟩ = some (.int .i64 0) := R1.cell 0 (by simp)
  have o10 : w1.cell? ⟨w.heap.size + 1 + 1, 0, none⟩ = some (.int .i64 x0) := O1.cell 0 (by simp)
  have x11 : w1.cell? ⟨w.heap.size, 1, none⟩ = some (.int .i64 x1) := X1.cell 1 (by simp)
  have r11 : w1.cell? ⟨w.heap.size + 1, 1, none⟩ = some (.int .i64 0) := R1.cell 1 (by simp)
  have o11 : w1.cell? ⟨w.heap.size + 1 + 1, 1, none⟩ = some (.int .i64 0) := O1.cell 1 (by simp)
  have x12 : w1.cell? ⟨w.heap.size, 2, none⟩ = some (.int .i64 x2) := X1.cell 2 (by simp)
  have r12 : w1.cell? ⟨w.heap.size + 1, 2, none⟩ = some (.int .i64 0) := R1.cell 2 (by simp)
  have o12 : w1.cell? ⟨w.heap.size + 1 + 1, 2, none⟩ = some (.int .i64 0) := O1.cell 2 (by simp)
  have g1 := X1.free
  have gr1 := R1.free
  have go1 := O1.free
  go_wp2
  refine bodyPost_ret (v := .agg #[.int .i64 x0, .int .i64 x1, .int .i64 x2]) (by simp [results, Try.results51, go_sem, r10, r11, r12]) rfl ?_
  refine ⟨rfl, ?_⟩
  (with_reducible repeat (first | exact V1 | refine bel_set ?_ ?_ _)) <;> simp <;> omega

theorem eqSp_same (x y : Int) (w : World) :
    Calls Try.prog 79 #[pt x y, pt x y] w fun e w' => e = .returned (.bool true) ∧ Bel w w' := by
  go_enter Try.func79, Try.ntmps79
  go_wp2
  go_ret
  exact ⟨rfl, bel_alloc (bel_alloc (Bel.refl _) _) _⟩

theorem eqSpot_same (x0 x1 x2 : Int) (w : World) :
    Calls Try.prog 62 #[.agg #[.int .i64 x0, .int .i64 x1, .int .i64 x2], .agg #[.int .i64 x0, .int .i64 x1, .int .i64 x2]] w fun e w' => e = .returned (.bool true) ∧ Bel w w' := by
  have S0 : Bel w ((w.alloc (.cells #[.int .i64 x0, .int .i64 x1, .int .i64 x2] 83)).alloc (.cells #[.int .i64 x0, .int .i64 x1, .int .i64 x2] 83)) := bel_alloc (bel_alloc (Bel.refl _) _) _
  have X0 : Blk ((w.alloc (.cells #[.int .i64 x0, .int .i64 x1, .int .i64 x2] 83)).alloc (.cells #[.int .i64 x0, .int .i64 x1, .int .i64 x2] 83)) w.heap.size [.int .i64 x0, .int .i64 x1, .int .i64 x2] := (Blk.new w [.int .i64 x0, .int .i64 x1, .int .i64 x2] 83).bel (bel_alloc (Bel.refl _) _)
  have Y0 : Blk ((w.alloc (.cells #[.int .i64 x0, .int .i64 x1, .int .i64 x2] 83)).alloc (.cells #[.int .i64 x0, .int .i64 x1, .int .i64 x2] 83)) (w.heap.size + 1) [.int .i64 x0, .int .i64 x1, .int .i64 x2] := Blk.new1 w _ [.int .i64 x0, .int .i64 x1, .int .i64 x2] 83
  go_enter Try.func62, Try.ntmps62
  go_wp2_with fail
  refine (eqSp_same _ _ _).mono ?_
  rintro e w1 ⟨rfl, hb1⟩
  have S1 := bel_step S0 hb1
  have X1 := X0.bel hb1
  have Y1 := Y0.bel hb1
  have x10 : w1.cell? ⟨w.heap.size, 0, none⟩ = some (.int .i64 x0) := X1.cell 0 (by simp)
  have y10 : w1.cell? ⟨w.heap.size + 1, 0, none⟩ = some (.int .i64 x0) := Y1.cell 0 (by simp)
  have x11 : w1.cell? ⟨w.heap.size, 1, none⟩ = some (.int .i64 x1) := X1.cell 1 (by simp)
  have y11 : w1.cell? ⟨w.heap.size + 1, 1, none⟩ = some (.int .i64 x1) := Y1.cell 1 (by simp)
  have x12 : w1.cell? ⟨w.heap.size, 2, none⟩ = some (.int .i64 x2) := X1.cell 2 (by simp)
  have y12 : w1.cell? ⟨w.heap.size + 1, 2, none⟩ = some (.int .i64 x2) := Y1.cell 2 (by simp)
  go_wp2
  go_ret
  exact ⟨rfl, S1⟩

theorem szSpotS_any (a : Option Addr) (n c : Nat) (l : List SpotD) (bs : List Nat) (left : Int) (w : World) (_hT : SpotL w a l bs) (hn : l.length = n) (hm : n ≤ 9223372036854775807) (h0 : 0 ≤ left) (h1 : left ≤ 1048576) :
    Calls Try.prog 18 #[.slice a n c, .int .i64 left] w fun e w' => e = .returned (.int .i64 (szR left l.length)) ∧ Bel w w' := by
  rw [hn]
  by_cases hf : (n : Int) ≤ left
  · rw [szR_pos hf]
    go_enter Try.func18, Try.ntmps18
    go_wp2
    go_ret
    exact ⟨rfl, Bel.refl _⟩
  · rw [szR_neg hf]
    go_enter Try.func18, Try.ntmps18
    go_wp2
    go_ret
    exact ⟨rfl, Bel.refl _⟩

theorem infoSpot : (Try.prog.info? 83).map (fun i => (i.zero, i.size, i.bytes)) = some (some (.agg #[.int .i64 0, .int .i64 0, .int .i64 0]), 3, 24) := by kernel_rfl
set_option maxHeartbeats 1000000 in
theorem toSpotS_any (a : Option Addr) (n c : Nat) (l : List SpotD) (bs : List Nat) (w : World) (hT : SpotL w a l bs) (hn : l.length = n) (hm : n ≤ 1048576) :
    Calls Try.prog 26 #[.slice a n c] w fun e w' => ∃ B cs, e = .returned (.slice (some ⟨B, 0, none⟩) n n) ∧ SpotL w' (some ⟨B, 0, none⟩) l cs ∧ Fresh w w' cs ∧ Bel w w' := by
  have Hn : Hid (l.length = n) := hn
  clear hn
  have hmk : ∀ w : World, (Instr.makeSlice 30 (.int .i64 n) (.int .i64 n)).run Try.prog w = .ok (.slice (some ⟨w.heap.size, 0, none⟩) n n) (w.alloc (.cells (madeCells #[.int .i64 0, .int .i64 0, .int .i64 0] (n * 3)) 83)) := fun w => by
    obtain ⟨i0, hi, hz0, hz1, hz2⟩ := info_parts infoSpot
    have := run_make (P := Try.prog) w 30 83 i0 (.agg #[.int .i64 0, .int .i64 0, .int .i64 0]) Try.underlying30 hi hz0 .i64 .i64 n n (by omega) (by omega) (by rw [hz2]; omega) (by omega)
    rw [hz1] at this
    exact this
  go_enter Try.func26, Try.ntmps26
  go_wp2
  go_loopw [4] (fun i wr => ∃ k : Nat, k ≤ n ∧ i = .int .i64 k ∧ (∃ f, Fill 3 SpotE wr w.heap.size n k l f) ∧ Bel w wr) (fun i _ => n - (intOf i).toNat)
  case atStart => exact ⟨0, Nat.zero_le _, rfl, ⟨_, Fill.start _ _ _ _ _ _⟩, bel_alloc (Bel.refl _) _⟩
  case round =>
    obtain ⟨k, hk, rfl, ⟨g, hrow⟩, hbel⟩ := hrel
    by_cases hlt : k < n
    · have hkl : k < l.length := by rw [Hn.out]; exact hlt
      obtain ⟨b, off, f, rfl, hb, hx⟩ := (hT.bel spotE hbel).out hkl
      obtain ⟨_, in0, in1, in2, c0, c1, c2⟩ := hx k hkl
      clear hx hT
      go_wp2_with fail
      refine (toSpot_any l[k].id l[k].x l[k].y _).mono ?_
      rintro e w1 ⟨rfl, hb1⟩
      have hr1 := hrow.bel spotE hb1
      have hB1 : Bel w w1 := bel_step hbel hb1
      obtain ⟨v0, d50⟩ := hr1.there (k * 3) (by omega)
      have f0 := hr1.free (k * 3)
      obtain ⟨v1, d51⟩ := hr1.there (k * 3 + 1) (by omega)
      have f1 := hr1.free (k * 3 + 1)
      obtain ⟨v2, d52⟩ := hr1.there (k * 3 + 2) (by omega)
      have f2 := hr1.free (k * 3 + 2)
      clear c0 c1 c2 hb hbel
      go_wp2
      go_roundw
      case rel =>
        have S := setRow_in w.heap.size [.int .i64 l[k].id, .int .i64 l[k].x, .int .i64 l[k].y] w1 (k * 3) (fun j hj => hr1.there _ (by simp at hj; omega))
        exact ⟨k + 1, by omega, by go_num, ⟨_, hrow.put spotE hb1 hlt Hn.out (Fresh.nil _ _) [.int .i64 l[k].id, .int .i64 l[k].x, .int .i64 l[k].y] rfl ⟨rfl, in0, in1, in2, S 0 (by simp), S 1 (by simp), S 2 (by simp)⟩⟩, setRow_bel hB1 (Nat.le_refl _) [.int .i64 l[k].id, .int .i64 l[k].x, .int .i64 l[k].y] (k * 3)⟩
      case measure => simp [intOf]; omega
    · have e : k = n := by omega
      subst e
      go_wp2
      go_ret
      exact ⟨_, _, rfl, hrow.sl Hn.out, hrow.fresh (Nat.le_refl _), hbel⟩

set_option maxHeartbeats 1000000 in
theorem eqSpotS_same (a a' : Option Addr) (n c c' : Nat) (l : List SpotD) (bs bs' : List Nat) (w : World) (hP : SpotL w a l bs) (hP' : SpotL w a' l bs') (hn : l.length = n) (hm : n ≤ 1048576) :
    Calls Try.prog 33 #[.slice a n c, .slice a' n c'] w fun e w' => e = .returned (.bool true) ∧ Bel w w' := by
  have Hn : Hid (l.length = n) := hn
  clear hn
  go_enter Try.func33, Try.ntmps33
  go_wp2
  go_loopw [5] (fun i wr => ∃ k : Nat, k ≤ n ∧ i = .int .i64 k ∧ Bel w wr) (fun i _ => n - (intOf i).toNat)
  case atStart => exact ⟨0, Nat.zero_le _, rfl, Bel.refl _⟩
  case round =>
    obtain ⟨k, hk, rfl, hbel⟩ := hrel
    by_cases hlt : k < n
    · have hkl : k < l.length := by rw [Hn.out]; exact hlt
      obtain ⟨b, off, f, rfl, h2, h3⟩ := (hP.bel spotE hbel).out hkl
      obtain ⟨b', off', f', rfl, h2', h3'⟩ := (hP'.bel spotE hbel).out hkl
      obtain ⟨_, in0, in1, in2, c0, c1, c2⟩ := h3 k hkl
      obtain ⟨_, in0', in1', in2', c0', c1', c2'⟩ := h3' k hkl
      have hR : ∀ w', Bel wr w' → w'.cell? ⟨b, off + k * 3, none⟩ = some (.int .i64 l[k].id) ∧ w'.cell? ⟨b, off + k * 3 + 1, none⟩ = some (.int .i64 l[k].x) ∧ w'.cell? ⟨b, off + k * 3 + 2, none⟩ = some (.int .i64 l[k].y) ∧ w'.cell? ⟨b', off' + k * 3, none⟩ = some (.int .i64 l[k].id) ∧ w'.cell? ⟨b', off' + k * 3 + 1, none⟩ = some (.int .i64 l[k].x) ∧ w'.cell? ⟨b', off' + k * 3 + 2, none⟩ = some (.int .i64 l[k].y) :=
        fun w' h => ⟨bel_cellM h h2 c0, bel_cellM h h2 c1, bel_cellM h h2 c2, bel_cellM h h2' c0', bel_cellM h h2' c1', bel_cellM h h2' c2'⟩
      have hlt' : (k : Int) < (n : Int) := by omega
      have g0 : Bel wr wr := Bel.refl _
      clear h3 h3' c0 c0' c1 c1' c2 c2' h2 h2' hP hP'
      go_wp2
      go_region_held3 (fun w' => Bel wr w') (repeat (first | exact g0 | refine Bel.drew ?_ | assumption | refine bel_then (by assumption) ?_))
        (first
          | (go_at_call 62; refine (eqSpot_same l[k].id l[k].x l[k].y _).mono ?_; rintro e w' ⟨rfl, hbk⟩))
      have hH : Bel wr w' := by assumption
      go_wp2
      go_roundw
      case rel => exact ⟨k + 1, by omega, by go_num, bel_step hbel hH⟩
      case measure => simp [intOf]; omega
    · have e : k = n := by omega
      subst e
      go_wp2
      go_ret
      exact ⟨rfl, hbel⟩

end Go.Proofs.Ytiagdabikbjbiaa

namespace Go.Proofs.Ytiagdabikbjbiaa
open Go.RowKit

theorem toRoad_any (x0 : Int) (x1 : Int) (x2 : Int) (x3 : Int) (x4 : Int) (x5 : ByteArray) (w : World) :
    Calls Try.prog 52 #[.agg #[.int .i64 x0, .int .i64 x1, .int .i64 x2, .int .i64 x3, .int .i64 x4, .string x5]] w fun e w' => e = .returned (.agg #[.int .i64 x0, .int .i64 x1, .int .i64 x2, .int .i64 x3, .int .i64 x4, .string x5]) ∧ Bel w w' := by
  go_enter Try.func52, Try.ntmps52
  go_wp2
  exact bodyPost_ret (v := .agg #[.int .i64 x0, .int .i64 x1, .int .i64 x2, .int .i64 x3, .int .i64 x4, .string x5]) (by simp [results, Try.results52, go_sem]) rfl ⟨rfl, bel_alloc (bel_alloc (bel_alloc (Bel.refl _) _) _) _⟩

theorem eqRoad_same (x0 : Int) (x1 : Int) (x2 : Int) (x3 : Int) (x4 : Int) (x5 : ByteArray) (w : World) :
    Calls Try.prog 63 #[.agg #[.int .i64 x0, .int .i64 x1, .int .i64 x2, .int .i64 x3, .int .i64 x4, .string x5], .agg #[.int .i64 x0, .int .i64 x1, .int .i64 x2, .int .i64 x3, .int .i64 x4, .string x5]] w fun e w' => e = .returned (.bool true) ∧ Bel w w' := by
  go_enter Try.func63, Try.ntmps63
  go_wp2
  go_ret
  exact ⟨rfl, bel_alloc (bel_alloc (Bel.refl _) _) _⟩

theorem szRoad_any (x0 x1 x2 x3 x4 : Int) (x5 : ByteArray) (left : Int) (w : World) (hv : x5.size ≤ maxLen) (h0 : 0 ≤ left) (h1 : left ≤ 1048576) :
    Calls Try.prog 47 #[.agg #[.int .i64 x0, .int .i64 x1, .int .i64 x2, .int .i64 x3, .int .i64 x4, .string x5], .int .i64 left] w fun e w' => e = .returned (.int .i64 (szR left (roadSz ⟨x0, x1, x2, x3, x4, x5⟩))) ∧ Bel w w' := by
  have hs : roadSz ⟨x0, x1, x2, x3, x4, x5⟩ = x5.size := rfl
  rw [hs]; clear hs
  unfold maxLen at hv
  by_cases a2 : (x5.size : Int) ≤ left
  · rw [szR_pos a2]
    go_enter Try.func47, Try.ntmps47
    go_wp2
    go_ret
    exact ⟨rfl, bel_alloc (Bel.refl _) _⟩
  · rw [szR_neg a2]
    go_enter Try.func47, Try.ntmps47
    go_wp2
    go_ret
    exact ⟨rfl, bel_alloc (Bel.refl _) _⟩

set_option maxHeartbeats 1000000 in
theorem szRoadS_any (a : Option Addr) (n c : Nat) (l : List RoadD) (bs : List Nat) (left : Int) (w : World) (hT : RoadL w a l bs) (hn : l.length = n) (hm : n ≤ 9223372036854775807) (h0 : 0 ≤ left) (h1 : left ≤ 1048576) :
    Calls Try.prog 19 #[.slice a n c, .int .i64 left] w fun e w' => e = .returned (.int .i64 (szR left (roadsSz l))) ∧ Bel w w' := by
  have Hn : Hid (l.length = n) := hn
  have HS : Hid (roadsSz l = n + sumTo roadSz l n) := (by unfold roadsSz; rw [hn] : roadsSz l = n + sumTo roadSz l n)
  clear hn
  by_cases hf : (n : Int) ≤ left
  · go_enter Try.func19, Try.ntmps19
    go_wp2
    go_loopw [1, 5] (fun t i wr => ∃ (k : Nat) (cur : Int), k ≤ n ∧ i = .int .i64 k ∧ t = .int .i64 cur ∧ 0 ≤ cur ∧ cur ≤ 1048576 ∧ Hid (cur = left - n - sumTo roadSz l k) ∧ Bel w wr) (fun _ i _ => n - (intOf i).toNat)
    case atStart => exact ⟨0, left - n, Nat.zero_le _, rfl, rfl, by omega, by omega, (by rw [sumTo_zero]; omega : left - (n : Int) = left - n - ((sumTo roadSz l 0 : Nat) : Int)), Bel.refl _⟩
    case round =>
      obtain ⟨k, cur, hk, rfl, rfl, p0, p1, HC, hbel⟩ := hrel
      by_cases hlt : k < n
      · have hkl : k < l.length := by rw [Hn.out]; exact hlt
        obtain ⟨b, off, f, rfl, hb, hx⟩ := (hT.bel roadE hbel).out hkl
        obtain ⟨_, in0, in1, in2, in3, in4, s5, c0, c1, c2, c3, c4, c5⟩ := hx k hkl
        have HU : Hid (sumTo roadSz l (k + 1) = sumTo roadSz l k + roadSz l[k]) := sumTo_succ _ hkl
        have HL : Hid (sumTo roadSz l (k + 1) ≤ sumTo roadSz l n) := sumTo_le _ (by omega) Hn.out.symm
        obtain ⟨r, HR⟩ : ∃ r, Hid (szR cur (roadSz l[k]) = r) := ⟨_, (rfl : szR cur (roadSz l[k]) = _)⟩
        have hr1 : r ≤ 1048576 := by rw [← HR.out]; exact (szR_bd p1).1
        clear hx hT
        by_cases p : 0 ≤ r
        · have HN : Hid (r = left - n - sumTo roadSz l (k + 1)) := by
            have h2 := HR.out; have h3 := HC.out; have h4 := HU.out
            have h5 : ((roadSz l[k] : Nat) : Int) ≤ cur := by
              by_cases h6 : ((roadSz l[k] : Nat) : Int) ≤ cur
              · exact h6
              · rw [szR_neg h6] at h2; omega
            rw [szR_pos h5] at h2
            show r = _
            omega
          go_wp2_with fail
          refine (szRoad_any _ _ _ _ _ l[k].name cur _ s5 p0 p1).mono ?_
          rintro e w1 ⟨rfl, hb1⟩
          rw [HR.out]
          have hB1 := bel_step hbel hb1
          clear hb1 hbel
          go_wp2
          go_roundw
          case rel => exact ⟨k + 1, r, by omega, by go_num, rfl, p, hr1, HN, hB1⟩
          case measure => simp [intOf]; omega
        · have HN : Hid (szR left (roadsSz l) = -1) := by
            have h2 := HR.out; have h3 := HC.out; have h4 := HU.out; have h6 := HL.out
            rw [HS.out]
            refine szR_neg fun h7 => p ?_
            have h8 : ((roadSz l[k] : Nat) : Int) ≤ cur := by omega
            rw [← h2, szR_pos h8]
            omega
          go_wp2_with fail
          refine (szRoad_any _ _ _ _ _ l[k].name cur _ s5 p0 p1).mono ?_
          rintro e w1 ⟨rfl, hb1⟩
          rw [HR.out]
          have hB1 := bel_step hbel hb1
          clear hb1 hbel
          go_wp2
          go_ret
          exact ⟨ret_num HN.out.symm, hB1⟩
      · have e : k = n := by omega
        subst e
        have HN : Hid (szR left (roadsSz l) = cur) := by
          have h3 := HC.out
          have h5 : ((k + sumTo roadSz l k : Nat) : Int) ≤ left := by omega
          rw [HS.out, szR_pos h5]
          show _ = _
          omega
        go_wp2
        go_ret
        exact ⟨ret_num HN.out.symm, hbel⟩
  · have HN : Hid (szR left (roadsSz l) = -1) := by rw [HS.out]; exact szR_neg (by omega)
    go_enter Try.func19, Try.ntmps19
    go_wp2
    go_ret
    exact ⟨ret_num HN.out.symm, Bel.refl _⟩

theorem infoRoad : (Try.prog.info? 72).map (fun i => (i.zero, i.size, i.bytes)) = some (some (.agg #[.int .i64 0, .int .i64 0, .int .i64 0, .int .i64 0, .int .i64 0, .string ⟨#[]⟩]), 6, 56) := by kernel_rfl
set_option maxHeartbeats 1000000 in
theorem toRoadS_any (a : Option Addr) (n c : Nat) (l : List RoadD) (bs : List Nat) (w : World) (hT : RoadL w a l bs) (hn : l.length = n) (hm : n ≤ 1048576) :
    Calls Try.prog 27 #[.slice a n c] w fun e w' => ∃ B cs, e = .returned (.slice (some ⟨B, 0, none⟩) n n) ∧ RoadL w' (some ⟨B, 0, none⟩) l cs ∧ Fresh w w' cs ∧ Bel w w' := by
  have Hn : Hid (l.length = n) := hn
  clear hn
  have hmk : ∀ w : World, (Instr.makeSlice 31 (.int .i64 n) (.int .i64 n)).run Try.prog w = .ok (.slice (some ⟨w.heap.size, 0, none⟩) n n) (w.alloc (.cells (madeCells #[.int .i64 0, .int .i64 0, .int .i64 0, .int .i64 0, .int .i64 0, .string ⟨#[]⟩] (n * 6)) 72)) := fun w => by
    obtain ⟨i0, hi, hz0, hz1, hz2⟩ := info_parts infoRoad
    have := run_make (P := Try.prog) w 31 72 i0 (.agg #[.int .i64 0, .int .i64 0, .int .i64 0, .int .i64 0, .int .i64 0, .string ⟨#[]⟩]) Try.underlying31 hi hz0 .i64 .i64 n n (by omega) (by omega) (by rw [hz2]; omega) (by omega)
    rw [hz1] at this
    exact this
  go_enter Try.func27, Try.ntmps27
  go_wp2
  go_loopw [4] (fun i wr => ∃ k : Nat, k ≤ n ∧ i = .int .i64 k ∧ (∃ f, Fill 6 RoadE wr w.heap.size n k l f) ∧ Bel w wr) (fun i _ => n - (intOf i).toNat)
  case atStart => exact ⟨0, Nat.zero_le _, rfl, ⟨_, Fill.start _ _ _ _ _ _⟩, bel_alloc (Bel.refl _) _⟩
  case round =>
    obtain ⟨k, hk, rfl, ⟨g, hrow⟩, hbel⟩ := hrel
    by_cases hlt : k < n
    · have hkl : k < l.length := by rw [Hn.out]; exact hlt
      obtain ⟨b, off, f, rfl, hb, hx⟩ := (hT.bel roadE hbel).out hkl
      obtain ⟨_, in0, in1, in2, in3, in4, s5, c0, c1, c2, c3, c4, c5⟩ := hx k hkl
      clear hx hT
      go_wp2_with fail
      refine (toRoad_any l[k].fr l[k].to l[k].way l[k].time l[k].len l[k].name _).mono ?_
      rintro e w1 ⟨rfl, hb1⟩
      have hr1 := hrow.bel roadE hb1
      have hB1 : Bel w w1 := bel_step hbel hb1
      obtain ⟨v0, d50⟩ := hr1.there (k * 6) (by omega)
      have f0 := hr1.free (k * 6)
      obtain ⟨v1, d51⟩ := hr1.there (k * 6 + 1) (by omega)
      have f1 := hr1.free (k * 6 + 1)
      obtain ⟨v2, d52⟩ := hr1.there (k * 6 + 2) (by omega)
      have f2 := hr1.free (k * 6 + 2)
      obtain ⟨v3, d53⟩ := hr1.there (k * 6 + 3) (by omega)
      have f3 := hr1.free (k * 6 + 3)
      obtain ⟨v4, d54⟩ := hr1.there (k * 6 + 4) (by omega)
      have f4 := hr1.free (k * 6 + 4)
      obtain ⟨v5, d55⟩ := hr1.there (k * 6 + 5) (by omega)
      have f5 := hr1.free (k * 6 + 5)
      clear c0 c1 c2 c3 c4 c5 hb hbel
      go_wp2
      go_roundw
      case rel =>
        have S := setRow_in w.heap.size [.int .i64 l[k].fr, .int .i64 l[k].to, .int .i64 l[k].way, .int .i64 l[k].time, .int .i64 l[k].len, .string l[k].name] w1 (k * 6) (fun j hj => hr1.there _ (by simp at hj; omega))
        exact ⟨k + 1, by omega, by go_num, ⟨_, hrow.put roadE hb1 hlt Hn.out (Fresh.nil _ _) [.int .i64 l[k].fr, .int .i64 l[k].to, .int .i64 l[k].way, .int .i64 l[k].time, .int .i64 l[k].len, .string l[k].name] rfl ⟨rfl, in0, in1, in2, in3, in4, s5, S 0 (by simp), S 1 (by simp), S 2 (by simp), S 3 (by simp), S 4 (by simp), S 5 (by simp)⟩⟩, setRow_bel hB1 (Nat.le_refl _) [.int .i64 l[k].fr, .int .i64 l[k].to, .int .i64 l[k].way, .int .i64 l[k].time, .int .i64 l[k].len, .string l[k].name] (k * 6)⟩
      case measure => simp [intOf]; omega
    · have e : k = n := by omega
      subst e
      go_wp2
      go_ret
      exact ⟨_, _, rfl, hrow.sl Hn.out, hrow.fresh (Nat.le_refl _), hbel⟩

set_option maxHeartbeats 1000000 in
theorem eqRoadS_same (a a' : Option Addr) (n c c' : Nat) (l : List RoadD) (bs bs' : List Nat) (w : World) (hP : RoadL w a l bs) (hP' : RoadL w a' l bs') (hn : l.length = n) (hm : n ≤ 1048576) :
    Calls Try.prog 34 #[.slice a n c, .slice a' n c'] w fun e w' => e = .returned (.bool true) ∧ Bel w w' := by
  have Hn : Hid (l.length = n) := hn
  clear hn
  go_enter Try.func34, Try.ntmps34
  go_wp2
  go_loopw [5] (fun i wr => ∃ k : Nat, k ≤ n ∧ i = .int .i64 k ∧ Bel w wr) (fun i _ => n - (intOf i).toNat)
  case atStart => exact ⟨0, Nat.zero_le _, rfl, Bel.refl _⟩
  case round =>
    obtain ⟨k, hk, rfl, hbel⟩ := hrel
    by_cases hlt : k < n
    · have hkl : k < l.length := by rw [Hn.out]; exact hlt
      obtain ⟨b, off, f, rfl, h2, h3⟩ := (hP.bel roadE hbel).out hkl
      obtain ⟨b', off', f', rfl, h2', h3'⟩ := (hP'.bel roadE hbel).out hkl
      obtain ⟨_, in0, in1, in2, in3, in4, s5, c0, c1, c2, c3, c4, c5⟩ := h3 k hkl
      obtain ⟨_, in0', in1', in2', in3', in4', s5', c0', c1', c2', c3', c4', c5'⟩ := h3' k hkl
      have hR : ∀ w', Bel wr w' → w'.cell? ⟨b, off + k * 6, none⟩ = some (.int .i64 l[k].fr) ∧ w'.cell? ⟨b, off + k * 6 + 1, none⟩ = some (.int .i64 l[k].to) ∧ w'.cell? ⟨b, off + k * 6 + 2, none⟩ = some (.int .i64 l[k].way) ∧ w'.cell? ⟨b, off + k * 6 + 3, none⟩ = some (.int .i64 l[k].time) ∧ w'.cell? ⟨b, off + k * 6 + 4, none⟩ = some (.int .i64 l[k].len) ∧ w'.cell? ⟨b, off + k * 6 + 5, none⟩ = some (.string l[k].name) ∧ w'.cell? ⟨b', off' + k * 6, none⟩ = some (.int .i64 l[k].fr) ∧ w'.cell? ⟨b', off' + k * 6 + 1, none⟩ = some (.int .i64 l[k].to) ∧ w'.cell? ⟨b', off' + k * 6 + 2, none⟩ = some (.int .i64 l[k].way) ∧ w'.cell? ⟨b', off' + k * 6 + 3, none⟩ = some (.int .i64 l[k].time) ∧ w'.cell? ⟨b', off' + k * 6 + 4, none⟩ = some (.int .i64 l[k].len) ∧ w'.cell? ⟨b', off' + k * 6 + 5, none⟩ = some (.string l[k].name) :=
        fun w' h => ⟨bel_cellM h h2 c0, bel_cellM h h2 c1, bel_cellM h h2 c2, bel_cellM h h2 c3, bel_cellM h h2 c4, bel_cellM h h2 c5, bel_cellM h h2' c0', bel_cellM h h2' c1', bel_cellM h h2' c2', bel_cellM h h2' c3', bel_cellM h h2' c4', bel_cellM h h2' c5'⟩
      have hlt' : (k : Int) < (n : Int) := by omega
      have g0 : Bel wr wr := Bel.refl _
      clear h3 h3' c0 c0' c1 c1' c2 c2' c3 c3' c4 c4' c5 c5' h2 h2' hP hP'
      go_wp2
      go_region_held3 (fun w' => Bel wr w') (repeat (first | exact g0 | refine Bel.drew ?_ | assumption | refine bel_then (by assumption) ?_))
        (first
          | (go_at_call 63; refine (eqRoad_same l[k].fr l[k].to l[k].way l[k].time l[k].len l[k].name _).mono ?_; rintro e w' ⟨rfl, hbk⟩))
      have hH : Bel wr w' := by assumption
      go_wp2
      go_roundw
      case rel => exact ⟨k + 1, by omega, by go_num, bel_step hbel hH⟩
      case measure => simp [intOf]; omega
    · have e : k = n := by omega
      subst e
      go_wp2
      go_ret
      exact ⟨rfl, hbel⟩

end Go.Proofs.Ytiagdabikbjbiaa

namespace Go.Proofs.Ytiagdabikbjbiaa
open Go.RowKit

theorem toBan_any (x0 : Int) (x1 : Int) (w : World) :
    Calls Try.prog 53 #[.agg #[.int .i64 x0, .int .i64 x1]] w fun e w' => e = .returned (.agg #[.int .i64 x0, .int .i64 x1]) ∧ Bel w w' := by
  go_enter Try.func53, Try.ntmps53
  go_wp2
  exact bodyPost_ret (v := .agg #[.int .i64 x0, .int .i64 x1]) (by simp [results, Try.results53, go_sem]) rfl ⟨rfl, bel_alloc (bel_alloc (bel_alloc (Bel.refl _) _) _) _⟩

theorem eqBan_same (x0 : Int) (x1 : Int) (w : World) :
    Calls Try.prog 64 #[.agg #[.int .i64 x0, .int .i64 x1], .agg #[.int .i64 x0, .int .i64 x1]] w fun e w' => e = .returned (.bool true) ∧ Bel w w' := by
  go_enter Try.func64, Try.ntmps64
  go_wp2
  go_ret
  exact ⟨rfl, bel_alloc (bel_alloc (Bel.refl _) _) _⟩

theorem szBanS_any (a : Option Addr) (n c : Nat) (l : List BanD) (bs : List Nat) (left : Int) (w : World) (_hT : BanL w a l bs) (hn : l.length = n) (hm : n ≤ 9223372036854775807) (h0 : 0 ≤ left) (h1 : left ≤ 1048576) :
    Calls Try.prog 20 #[.slice a n c, .int .i64 left] w fun e w' => e = .returned (.int .i64 (szR left l.length)) ∧ Bel w w' := by
  rw [hn]
  by_cases hf : (n : Int) ≤ left
  · rw [szR_pos hf]
    go_enter Try.func20, Try.ntmps20
    go_wp2
    go_ret
    exact ⟨rfl, Bel.refl _⟩
  · rw [szR_neg hf]
    go_enter Try.func20, Try.ntmps20
    go_wp2
    go_ret
    exact ⟨rfl, Bel.refl _⟩

theorem infoBan : (Try.prog.info? 75).map (fun i => (i.zero, i.size, i.bytes)) = some (some (.agg #[.int .i64 0, .int .i64 0]), 2, 16) := by kernel_rfl
set_option maxHeartbeats 1000000 in
theorem toBanS_any (a : Option Addr) (n c : Nat) (l : List BanD) (bs : List Nat) (w : World) (hT : BanL w a l bs) (hn : l.length = n) (hm : n ≤ 1048576) :
    Calls Try.prog 28 #[.slice a n c] w fun e w' => ∃ B cs, e = .returned (.slice (some ⟨B, 0, none⟩) n n) ∧ BanL w' (some ⟨B, 0, none⟩) l cs ∧ Fresh w w' cs ∧ Bel w w' := by
  have Hn : Hid (l.length = n) := hn
  clear hn
  have hmk : ∀ w : World, (Instr.makeSlice 32 (.int .i64 n) (.int .i64 n)).run Try.prog w = .ok (.slice (some ⟨w.heap.size, 0, none⟩) n n) (w.alloc (.cells (madeCells #[.int .i64 0, .int .i64 0] (n * 2)) 75)) := fun w => by
    obtain ⟨i0, hi, hz0, hz1, hz2⟩ := info_parts infoBan
    have := run_make (P := Try.prog) w 32 75 i0 (.agg #[.int .i64 0, .int .i64 0]) Try.underlying32 hi hz0 .i64 .i64 n n (by omega) (by omega) (by rw [hz2]; omega) (by omega)
    rw [hz1] at this
    exact this
  go_enter Try.func28, Try.ntmps28
  go_wp2
  go_loopw [4] (fun i wr => ∃ k : Nat, k ≤ n ∧ i = .int .i64 k ∧ (∃ f, Fill 2 BanE wr w.heap.size n k l f) ∧ Bel w wr) (fun i _ => n - (intOf i).toNat)
  case atStart => exact ⟨0, Nat.zero_le _, rfl, ⟨_, Fill.start _ _ _ _ _ _⟩, bel_alloc (Bel.refl _) _⟩
  case round =>
    obtain ⟨k, hk, rfl, ⟨g, hrow⟩, hbel⟩ := hrel
    by_cases hlt : k < n
    · have hkl : k < l.length := by rw [Hn.out]; exact hlt
      obtain ⟨b, off, f, rfl, hb, hx⟩ := (hT.bel banE hbel).out hkl
      obtain ⟨_, in0, in1, c0, c1⟩ := hx k hkl
      clear hx hT
      go_wp2_with fail
      refine (toBan_any l[k].fr l[k].to _).mono ?_
      rintro e w1 ⟨rfl, hb1⟩
      have hr1 := hrow.bel banE hb1
      have hB1 : Bel w w1 := bel_step hbel hb1
      obtain ⟨v0, d50⟩ := hr1.there (k * 2) (by omega)
      have f0 := hr1.free (k * 2)
      obtain ⟨v1, d51⟩ := hr1.there (k * 2 + 1) (by omega)
      have f1 := hr1.free (k * 2 + 1)
      clear c0 c1 hb hbel
      go_wp2
      go_roundw
      case rel =>
        have S := setRow_in w.heap.size [.int .i64 l[k].fr, .int .i64 l[k].to] w1 (k * 2) (fun j hj => hr1.there _ (by simp at hj; omega))
        exact ⟨k + 1, by omega, by go_num, ⟨_, hrow.put banE hb1 hlt Hn.out (Fresh.nil _ _) [.int .i64 l[k].fr, .int .i64 l[k].to] rfl ⟨rfl, in0, in1, S 0 (by simp), S 1 (by simp)⟩⟩, setRow_bel hB1 (Nat.le_refl _) [.int .i64 l[k].fr, .int .i64 l[k].to] (k * 2)⟩
      case measure => simp [intOf]; omega
    · have e : k = n := by omega
      subst e
      go_wp2
      go_ret
      exact ⟨_, _, rfl, hrow.sl Hn.out, hrow.fresh (Nat.le_refl _), hbel⟩

set_option maxHeartbeats 1000000 in
theorem eqBanS_same (a a' : Option Addr) (n c c' : Nat) (l : List BanD) (bs bs' : List Nat) (w : World) (hP : BanL w a l bs) (hP' : BanL w a' l bs') (hn : l.length = n) (hm : n ≤ 1048576) :
    Calls Try.prog 35 #[.slice a n c, .slice a' n c'] w fun e w' => e = .returned (.bool true) ∧ Bel w w' := by
  have Hn : Hid (l.length = n) := hn
  clear hn
  go_enter Try.func35, Try.ntmps35
  go_wp2
  go_loopw [5] (fun i wr => ∃ k : Nat, k ≤ n ∧ i = .int .i64 k ∧ Bel w wr) (fun i _ => n - (intOf i).toNat)
  case atStart => exact ⟨0, Nat.zero_le _, rfl, Bel.refl _⟩
  case round =>
    obtain ⟨k, hk, rfl, hbel⟩ := hrel
    by_cases hlt : k < n
    · have hkl : k < l.length := by rw [Hn.out]; exact hlt
      obtain ⟨b, off, f, rfl, h2, h3⟩ := (hP.bel banE hbel).out hkl
      obtain ⟨b', off', f', rfl, h2', h3'⟩ := (hP'.bel banE hbel).out hkl
      obtain ⟨_, in0, in1, c0, c1⟩ := h3 k hkl
      obtain ⟨_, in0', in1', c0', c1'⟩ := h3' k hkl
      have hR : ∀ w', Bel wr w' → w'.cell? ⟨b, off + k * 2, none⟩ = some (.int .i64 l[k].fr) ∧ w'.cell? ⟨b, off + k * 2 + 1, none⟩ = some (.int .i64 l[k].to) ∧ w'.cell? ⟨b', off' + k * 2, none⟩ = some (.int .i64 l[k].fr) ∧ w'.cell? ⟨b', off' + k * 2 + 1, none⟩ = some (.int .i64 l[k].to) :=
        fun w' h => ⟨bel_cellM h h2 c0, bel_cellM h h2 c1, bel_cellM h h2' c0', bel_cellM h h2' c1'⟩
      have hlt' : (k : Int) < (n : Int) := by omega
      have g0 : Bel wr wr := Bel.refl _
      clear h3 h3' c0 c0' c1 c1' h2 h2' hP hP'
      go_wp2
      go_region_held3 (fun w' => Bel wr w') (repeat (first | exact g0 | refine Bel.drew ?_ | assumption | refine bel_then (by assumption) ?_))
        (first
          | (go_at_call 64; refine (eqBan_same l[k].fr l[k].to _).mono ?_; rintro e w' ⟨rfl, hbk⟩))
      have hH : Bel wr w' := by assumption
      go_wp2
      go_roundw
      case rel => exact ⟨k + 1, by omega, by go_num, bel_step hbel hH⟩
      case measure => simp [intOf]; omega
    · have e : k = n := by omega
      subst e
      go_wp2
      go_ret
      exact ⟨rfl, hbel⟩

end Go.Proofs.Ytiagdabikbjbiaa
