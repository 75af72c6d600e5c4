/-
  Contracts of the laws' own functions on Spot data: counted, copied, held against each other.
-/
import Derived.Test.YtiagdabikbjbiaaXA
import Derived.Test.YtiagdabikbjbiaaXC
import Derived.Deep.LoopGhost
import Derived.OwnWalk
import Derived.Deep.RegionHeld3
namespace Go.Proofs.Ytiagdabikbjbiaa
open Go.RowKit

theorem toSpot_any (x0 x1 x2 : Int) (w : World) :
    Calls Try.prog 51 #[.agg #[.int .i64 x0, .int .i64 x1, .int .i64 x2]] w fun e w' => e = .returned (.agg #[.int .i64 x0, .int .i64 x1, .int .i64 x2]) ∧ Bel w w' := by
  have S0 : Bel w (((w.alloc (.cells #[.int .i64 x0, .int .i64 x1, .int .i64 x2] 90)).alloc (.cells #[.int .i64 0, .int .i64 0, .int .i64 0] 83)).alloc (.cells #[.int .i64 x0, .int .i64 0, .int .i64 0] 83)) := bel_alloc (bel_alloc (bel_alloc (Bel.refl _) _) _) _
  have X0 : Blk (((w.alloc (.cells #[.int .i64 x0, .int .i64 x1, .int .i64 x2] 90)).alloc (.cells #[.int .i64 0, .int .i64 0, .int .i64 0] 83)).alloc (.cells #[.int .i64 x0, .int .i64 0, .int .i64 0] 83)) (w.heap.size) [.int .i64 x0, .int .i64 x1, .int .i64 x2] := (Blk.new w [.int .i64 x0, .int .i64 x1, .int .i64 x2] 90).bel (bel_alloc (bel_alloc (Bel.refl _) _) _)
  have R0 : Blk (((w.alloc (.cells #[.int .i64 x0, .int .i64 x1, .int .i64 x2] 90)).alloc (.cells #[.int .i64 0, .int .i64 0, .int .i64 0] 83)).alloc (.cells #[.int .i64 x0, .int .i64 0, .int .i64 0] 83)) (w.heap.size + 1) [.int .i64 0, .int .i64 0, .int .i64 0] := (Blk.new1 w _ [.int .i64 0, .int .i64 0, .int .i64 0] 83).bel (bel_alloc (Bel.refl _) _)
  have O0 : Blk (((w.alloc (.cells #[.int .i64 x0, .int .i64 x1, .int .i64 x2] 90)).alloc (.cells #[.int .i64 0, .int .i64 0, .int .i64 0] 83)).alloc (.cells #[.int .i64 x0, .int .i64 0, .int .i64 0] 83)) (w.heap.size + 1 + 1) [.int .i64 x0, .int .i64 0, .int .i64 0] := Blk.new2 w _ _ [.int .i64 x0, .int .i64 0, .int .i64 0] 83
  have y0 : w.heap.size + 3 ≤ (((w.alloc (.cells #[.int .i64 x0, .int .i64 x1, .int .i64 x2] 90)).alloc (.cells #[.int .i64 0, .int .i64 0, .int .i64 0] 83)).alloc (.cells #[.int .i64 x0, .int .i64 0, .int .i64 0] 83)).heap.size := by simp
  go_enter Try.func51, Try.ntmps51
  go_wp2_with fail
  refine (toPoint_any _ _ _).mono ?_
  rintro e w1 ⟨rfl, hb1⟩
  have V1 := bel_step S0 hb1
  have X1 := X0.bel hb1
  have R1 := R0.bel hb1
  have O1 := O0.bel hb1
  have z1 : w.heap.size + 3 ≤ w1.heap.size := Nat.le_trans y0 hb1.out.size
  have x10 : w1.cell? ⟨w.heap.size, 0, none⟩ = some (.int .i64 x0) := X1.cell 0 (by simp)
  have r10 : w1.cell? ⟨w.heap.size + 1, 0, none⟩ = some (.int .i64 0) := R1.cell 0 (by simp)
  have o10 : w1.cell? ⟨w.heap.size + 1 + 1, 0, none⟩ = some (.int .i64 x0) := O1.cell 0 (by simp)
  have x11 : w1.cell? ⟨w.heap.size, 1, none⟩ = some (.int .i64 x1) := X1.cell 1 (by simp)
  have r11 : w1.cell? ⟨w.heap.size + 1, 1, none⟩ = some (.int .i64 0) := R1.cell 1 (by simp)
  have o11 : w1.cell? ⟨w.heap.size + 1 + 1, 1, none⟩ = some (.int .i64 0) := O1.cell 1 (by simp)
  have x12 : w1.cell? ⟨w.heap.size, 2, none⟩ = some (.int .i64 x2) := X1.cell 2 (by simp)
  have r12 : w1.cell? ⟨w.heap.size + 1, 2, none⟩ = some (.int .i64 0) := R1.cell 2 (by simp)
  have o12 : w1.cell? ⟨w.heap.size + 1 + 1, 2, none⟩ = some (.int .i64 0) := O1.cell 2 (by simp)
  have g1 := X1.free
  have gr1 := R1.free
  have go1 := O1.free
  go_wp2
  refine bodyPost_ret (v := .agg #[.int .i64 x0, .int .i64 x1, .int .i64 x2]) (by simp [results, Try.results51, go_sem, r10, r11, r12]) rfl ?_
  refine ⟨rfl, ?_⟩
  (with_reducible repeat (first | exact V1 | refine bel_set ?_ ?_ _)) <;> simp <;> omega

theorem eqSp_same (x y : Int) (w : World) :
    Calls Try.prog 79 #[pt x y, pt x y] w fun e w' => e = .returned (.bool true) ∧ Bel w w' := by
  go_enter Try.func79, Try.ntmps79
  go_wp2
  go_ret
  exact ⟨rfl, bel_alloc (bel_alloc (Bel.refl _) _) _⟩

theorem eqSpot_same (x0 x1 x2 : Int) (w : World) :
    Calls Try.prog 62 #[.agg #[.int .i64 x0, .int .i64 x1, .int .i64 x2], .agg #[.int .i64 x0, .int .i64 x1, .int .i64 x2]] w fun e w' => e = .returned (.bool true) ∧ Bel w w' := by
  have S0 : Bel w ((w.alloc (.cells #[.int .i64 x0, .int .i64 x1, .int .i64 x2] 83)).alloc (.cells #[.int .i64 x0, .int .i64 x1, .int .i64 x2] 83)) := bel_alloc (bel_alloc (Bel.refl _) _) _
  have X0 : Blk ((w.alloc (.cells #[.int .i64 x0, .int .i64 x1, .int .i64 x2] 83)).alloc (.cells #[.int .i64 x0, .int .i64 x1, .int .i64 x2] 83)) w.heap.size [.int .i64 x0, .int .i64 x1, .int .i64 x2] := (Blk.new w [.int .i64 x0, .int .i64 x1, .int .i64 x2] 83).bel (bel_alloc (Bel.refl _) _)
  have Y0 : Blk ((w.alloc (.cells #[.int .i64 x0, .int .i64 x1, .int .i64 x2] 83)).alloc (.cells #[.int .i64 x0, .int .i64 x1, .int .i64 x2] 83)) (w.heap.size + 1) [.int .i64 x0, .int .i64 x1, .int .i64 x2] := Blk.new1 w _ [.int .i64 x0, .int .i64 x1, .int .i64 x2] 83
  go_enter Try.func62, Try.ntmps62
  go_wp2_with fail
  refine (eqSp_same _ _ _).mono ?_
  rintro e w1 ⟨rfl, hb1⟩
  have S1 := bel_step S0 hb1
  have X1 := X0.bel hb1
  have Y1 := Y0.bel hb1
  have x10 : w1.cell? ⟨w.heap.size, 0, none⟩ = some (.int .i64 x0) := X1.cell 0 (by simp)
  have y10 : w1.cell? ⟨w.heap.size + 1, 0, none⟩ = some (.int .i64 x0) := Y1.cell 0 (by simp)
  have x11 : w1.cell? ⟨w.heap.size, 1, none⟩ = some (.int .i64 x1) := X1.cell 1 (by simp)
  have y11 : w1.cell? ⟨w.heap.size + 1, 1, none⟩ = some (.int .i64 x1) := Y1.cell 1 (by simp)
  have x12 : w1.cell? ⟨w.heap.size, 2, none⟩ = some (.int .i64 x2) := X1.cell 2 (by simp)
  have y12 : w1.cell? ⟨w.heap.size + 1, 2, none⟩ = some (.int .i64 x2) := Y1.cell 2 (by simp)
  go_wp2
  go_ret
  exact ⟨rfl, S1⟩

theorem szSpotS_any (a : Option Addr) (n c : Nat) (l : List SpotD) (bs : List Nat) (left : Int) (w : World) (_hT : SpotL w a l bs) (hn : l.length = n) (hm : n ≤ 9223372036854775807) (h0 : 0 ≤ left) (h1 : left ≤ 1048576) :
    Calls Try.prog 18 #[.slice a n c, .int .i64 left] w fun e w' => e = .returned (.int .i64 (szR left l.length)) ∧ Bel w w' := by
  rw [hn]
  by_cases hf : (n : Int) ≤ left
  · rw [szR_pos hf]
    go_enter Try.func18, Try.ntmps18
    go_wp2
    go_ret
    exact ⟨rfl, Bel.refl _⟩
  · rw [szR_neg hf]
    go_enter Try.func18, Try.ntmps18
    go_wp2
    go_ret
    exact ⟨rfl, Bel.refl _⟩

theorem infoSpot : (Try.prog.info? 83).map (fun i => (i.zero, i.size, i.bytes)) = some (some (.agg #[.int .i64 0, .int .i64 0, .int .i64 0]), 3, 24) := by kernel_rfl
set_option maxHeartbeats 1000000 in
theorem toSpotS_any (a : Option Addr) (n c : Nat) (l : List SpotD) (bs : List Nat) (w : World) (hT : SpotL w a l bs) (hn : l.length = n) (hm : n ≤ 1048576) :
    Calls Try.prog 26 #[.slice a n c] w fun e w' => ∃ B cs, e = .returned (.slice (some ⟨B, 0, none⟩) n n) ∧ SpotL w' (some ⟨B, 0, none⟩) l cs ∧ Fresh w w' cs ∧ Bel w w' := by
  have Hn : Hid (l.length = n) := hn
  clear hn
  have hmk : ∀ w : World, (Instr.makeSlice 30 (.int .i64 n) (.int .i64 n)).run Try.prog w = .ok (.slice (some ⟨w.heap.size, 0, none⟩) n n) (w.alloc (.cells (madeCells #[.int .i64 0, .int .i64 0, .int .i64 0] (n * 3)) 83)) := fun w => by
    obtain ⟨i0, hi, hz0, hz1, hz2⟩ := info_parts infoSpot
    have := run_make (P := Try.prog) w 30 83 i0 (.agg #[.int .i64 0, .int .i64 0, .int .i64 0]) Try.underlying30 hi hz0 .i64 .i64 n n (by omega) (by omega) (by rw [hz2]; omega) (by omega)
    rw [hz1] at this
    exact this
  go_enter Try.func26, Try.ntmps26
  go_wp2
  go_loopw [4] (fun i wr => ∃ k : Nat, k ≤ n ∧ i = .int .i64 k ∧ (∃ f, Fill 3 SpotE wr w.heap.size n k l f) ∧ Bel w wr) (fun i _ => n - (intOf i).toNat)
  case atStart => exact ⟨0, Nat.zero_le _, rfl, ⟨_, Fill.start _ _ _ _ _ _⟩, bel_alloc (Bel.refl _) _⟩
  case round =>
    obtain ⟨k, hk, rfl, ⟨g, hrow⟩, hbel⟩ := hrel
    by_cases hlt : k < n
    · have hkl : k < l.length := by rw [Hn.out]; exact hlt
      obtain ⟨b, off, f, rfl, hb, hx⟩ := (hT.bel spotE hbel).out hkl
      obtain ⟨_, in0, in1, in2, c0, c1, c2⟩ := hx k hkl
      clear hx hT
      go_wp2_with fail
      refine (toSpot_any l[k].id l[k].x l[k].y _).mono ?_
      rintro e w1 ⟨rfl, hb1⟩
      have hr1 := hrow.bel spotE hb1
      have hB1 : Bel w w1 := bel_step hbel hb1
      obtain ⟨v0, d50⟩ := hr1.there (k * 3) (by omega)
      have f0 := hr1.free (k * 3)
      obtain ⟨v1, d51⟩ := hr1.there (k * 3 + 1) (by omega)
      have f1 := hr1.free (k * 3 + 1)
      obtain ⟨v2, d52⟩ := hr1.there (k * 3 + 2) (by omega)
      have f2 := hr1.free (k * 3 + 2)
      clear c0 c1 c2 hb hbel
      go_wp2
      go_roundw
      case rel =>
        have S := setRow_in w.heap.size [.int .i64 l[k].id, .int .i64 l[k].x, .int .i64 l[k].y] w1 (k * 3) (fun j hj => hr1.there _ (by simp at hj; omega))
        exact ⟨k + 1, by omega, by go_num, ⟨_, hrow.put spotE hb1 hlt Hn.out (Fresh.nil _ _) [.int .i64 l[k].id, .int .i64 l[k].x, .int .i64 l[k].y] rfl ⟨rfl, in0, in1, in2, S 0 (by simp), S 1 (by simp), S 2 (by simp)⟩⟩, setRow_bel hB1 (Nat.le_refl _) [.int .i64 l[k].id, .int .i64 l[k].x, .int .i64 l[k].y] (k * 3)⟩
      case measure => simp [intOf]; omega
    · have e : k = n := by omega
      subst e
      go_wp2
      go_ret
      exact ⟨_, _, rfl, hrow.sl Hn.out, hrow.fresh (Nat.le_refl _), hbel⟩

set_option maxHeartbeats 1000000 in
theorem eqSpotS_same (a a' : Option Addr) (n c c' : Nat) (l : List SpotD) (bs bs' : List Nat) (w : World) (hP : SpotL w a l bs) (hP' : SpotL w a' l bs') (hn : l.length = n) (hm : n ≤ 1048576) :
    Calls Try.prog 33 #[.slice a n c, .slice a' n c'] w fun e w' => e = .returned (.bool true) ∧ Bel w w' := by
  have Hn : Hid (l.length = n) := hn
  clear hn
  go_enter Try.func33, Try.ntmps33
  go_wp2
  go_loopw [5] (fun i wr => ∃ k : Nat, k ≤ n ∧ i = .int .i64 k ∧ Bel w wr) (fun i _ => n - (intOf i).toNat)
  case atStart => exact ⟨0, Nat.zero_le _, rfl, Bel.refl _⟩
  case round =>
    obtain ⟨k, hk, rfl, hbel⟩ := hrel
    by_cases hlt : k < n
    · have hkl : k < l.length := by rw [Hn.out]; exact hlt
      obtain ⟨b, off, f, rfl, h2, h3⟩ := (hP.bel spotE hbel).out hkl
      obtain ⟨b', off', f', rfl, h2', h3'⟩ := (hP'.bel spotE hbel).out hkl
      obtain ⟨_, in0, in1, in2, c0, c1, c2⟩ := h3 k hkl
      obtain ⟨_, in0', in1', in2', c0', c1', c2'⟩ := h3' k hkl
      have hR : ∀ w', Bel wr w' → w'.cell? ⟨b, off + k * 3, none⟩ = some (.int .i64 l[k].id) ∧ w'.cell? ⟨b, off + k * 3 + 1, none⟩ = some (.int .i64 l[k].x) ∧ w'.cell? ⟨b, off + k * 3 + 2, none⟩ = some (.int .i64 l[k].y) ∧ w'.cell? ⟨b', off' + k * 3, none⟩ = some (.int .i64 l[k].id) ∧ w'.cell? ⟨b', off' + k * 3 + 1, none⟩ = some (.int .i64 l[k].x) ∧ w'.cell? ⟨b', off' + k * 3 + 2, none⟩ = some (.int .i64 l[k].y) :=
        fun w' h => ⟨bel_cellM h h2 c0, bel_cellM h h2 c1, bel_cellM h h2 c2, bel_cellM h h2' c0', bel_cellM h h2' c1', bel_cellM h h2' c2'⟩
      have hlt' : (k : Int) < (n : Int) := by omega
      have g0 : Bel wr wr := Bel.refl _
      clear h3 h3' c0 c0' c1 c1' c2 c2' h2 h2' hP hP'
      go_wp2
      go_region_held3 (fun w' => Bel wr w') (repeat (first | exact g0 | refine Bel.drew ?_ | assumption | refine bel_then (by assumption) ?_))
        (first
          | (go_at_call 62; refine (eqSpot_same l[k].id l[k].x l[k].y _).mono ?_; rintro e w' ⟨rfl, hbk⟩))
      have hH : Bel wr w' := by assumption
      go_wp2
      go_roundw
      case rel => exact ⟨k + 1, by omega, by go_num, bel_step hbel hH⟩
      case measure => simp [intOf]; omega
    · have e : k = n := by omega
      subst e
      go_wp2
      go_ret
      exact ⟨rfl, hbel⟩

end Go.Proofs.Ytiagdabikbjbiaa
