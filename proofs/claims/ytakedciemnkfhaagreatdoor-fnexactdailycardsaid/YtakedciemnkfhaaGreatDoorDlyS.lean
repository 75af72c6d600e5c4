/-
  Daily in the model: contract.
-/
import Derived.Test.YtakedciemnkfhaaGreatDoorHC
import Derived.Test.YtakedciemnkfhaaGreatDoorCpyG
import Derived.Test.YtakedciemnkfhaaGreatDoorFrdS
import Derived.Test.YtakedciemnkfhaaGreatDoorGS
namespace Go.Proofs.YtakedciemnkfhaaGreatDoor
open Go.RowKit Go.Maps

theorem l11Slow_any (t p : Int) (w : World) (ht : 1 ≤ t ∧ t ≤ 1000000) (hp : 1 ≤ p ∧ p ≤ 10000) :
  Calls Tryz.prog 28 #[.int .i64 t, .int .i64 p] w fun e w' => e = .returned (.int .i64 (slwT t p)) ∧ w' = w := by
 have hm := mul_bd ht hp
 have hw1 : IntKind.i64.wrap (t * p) = t * p := by rw [IntKind.wrap_i64]; omega
 have hw2 : IntKind.i64.wrap (t * p + 99) = t * p + 99 := by rw [IntKind.wrap_i64]; omega
 have hq1 : Int.tdiv (t * p + 99) 100 = (t * p + 99) / 100 := run_quo (by omega)
 have h1 : decide ((t * p + 99) / 100 < 1) = false := by simp; omega
 by_cases hh : (t * p + 99) / 100 ≤ 1000000
 ·have h2 : decide (1000000 < (t * p + 99) / 100) = false := by simp; omega
  have HE : Hid (slwT t p = (t * p + 99) / 100) := slwT_lo hh
  clear hh
  go_enter Tryz.func28, Tryz.ntmps28
  go_wp2
  go_ret
  exact ⟨by rw [HE.out]; rfl, rfl⟩
 ·have h2 : decide (1000000 < (t * p + 99) / 100) = true := by simp; omega
  have HE : Hid (slwT t p = 1000000) := slwT_hi hh
  clear hh
  go_enter Tryz.func28, Tryz.ntmps28
  go_wp2
  go_ret
  exact ⟨by rw [HE.out]; rfl, rfl⟩

/-- What is asked of the model's BestPath. -/
def SbC : Prop := ∀ (v : Value) (g : GraphD) (bs : List Nat) (si ti : Int) (w : World), GphV w v g bs → GphQ g → Calls Tryz.prog 29 #[v, .int .i64 si, .int .i64 ti] w fun e w' => PthO w.heap.size w' (bpQ g si ti) e ∧ Bel w w'

set_option maxRecDepth 100000 in
set_option maxHeartbeats 4000000 in
theorem specDaily_of (hBk : SbC) (v : Value) (g : GraphD) (bs : List Nat) (ar : Option Addr) (m cr : Nat) (l : List Int) (br : List Nat) (si ti st : Int) (w : World) (hV : GphV w v g bs) (hQ : GphQ g) (hI : Ints w ar l br) (hl : l.length = m) :
  Calls Tryz.prog 6 #[v, .slice ar m cr, .int .i64 si, .int .i64 ti, .int .i64 st] w fun e w' => PthO w.heap.size w' (dlQ g l si ti st) e ∧ Bel w w' := by
 have HBk : Hid SbC := hBk
 have HL : Hid (l.length = m) := hl
 clear hl
 have hV' := hV
 obtain ⟨a0, c0, a1, c1, a2, c2, b0, b1, b2, _, rfl, t0, t1, t2⟩ := hV
 obtain ⟨n0, H0⟩ : ∃ n, Hid (g.places.length = n) := ⟨_, (rfl : g.places.length = _)⟩
 obtain ⟨n1, H1⟩ : ∃ n, Hid (g.roads.length = n) := ⟨_, (rfl : g.roads.length = _)⟩
 obtain ⟨n2, H2⟩ : ∃ n, Hid (g.bans.length = n) := ⟨_, (rfl : g.bans.length = _)⟩
 rw [H0.out, H1.out, H2.out] at hV' ⊢
 obtain ⟨W, HW⟩ : ∃ W, Hid (W = (w.alloc (.cells #[.slice a0 n0 c0, .slice a1 n1 c1, .slice a2 n2 c2] 36)).alloc (.cells #[.bool false, .slice none 0 0, .int .i64 0, .int .i64 0] 30)) := ⟨_, (rfl : (w.alloc (.cells #[.slice a0 n0 c0, .slice a1 n1 c1, .slice a2 n2 c2] 36)).alloc (.cells #[.bool false, .slice none 0 0, .int .i64 0, .int .i64 0] 30) = _)⟩
 have hBW : Bel w W := by rw [HW.out]; exact bel_alloc (bel_alloc (Bel.refl _) _) _
 have XG : Blk W w.heap.size [.slice a0 n0 c0, .slice a1 n1 c1, .slice a2 n2 c2] := by rw [HW.out]; exact (Blk.new w [.slice a0 n0 c0, .slice a1 n1 c1, .slice a2 n2 c2] _).bel (bel_alloc (Bel.refl _) _)
 have XR : Blk W (w.heap.size + 1) [.bool false, .slice none 0 0, .int .i64 0, .int .i64 0] := by rw [HW.out]; exact Blk.new1 w _ [.bool false, .slice none 0 0, .int .i64 0, .int .i64 0] _
 obtain ⟨nw, Hnw⟩ : ∃ n, Hid (w.heap.size = n) := ⟨_, (rfl : w.heap.size = _)⟩
 rw [Hnw.out] at XG XR
 have hle : w.heap.size ≤ nw + 1 := by rw [Hnw.out]; omega
 obtain ⟨R, HR⟩ : ∃ R, Hid (dlQ g l si ti st = R) := ⟨_, (rfl : dlQ g l si ti st = _)⟩
 rw [HR.out]
 have HXR : Hid (Blk W (nw + 1) [.bool false, .slice none 0 0, .int .i64 0, .int .i64 0]) := XR
 clear XR
 have x0 : W.cell? ⟨nw, 0, none⟩ = some (.slice a0 n0 c0) := XG.cell 0 (by simp)
 have x1 : W.cell? ⟨nw, 1, none⟩ = some (.slice a1 n1 c1) := XG.cell 1 (by simp)
 have x2 : W.cell? ⟨nw, 2, none⟩ = some (.slice a2 n2 c2) := XG.cell 2 (by simp)
 have xl := XG.lt
 go_enter Tryz.func6, Tryz.ntmps6
 go_upto_region 1 with fail
 rw [← HW.out, Hnw.out]
 by_cases h24 : m = 24
 rotate_left
 ·have HF : Hid (R = ⟨false, [], 0, 0⟩) := (by rw [← HR.out]; exact dlQ_no (fun h => h24 (by rw [← HL.out]; exact h.2.1.1)) : R = ⟨false, [], 0, 0⟩)
  have hmd : ((m : Int) == 24) = false := by simp; omega
  have hme : ((m : Int) != 24) = true := by simp; omega
  have hmn : ¬ (m : Int) = 24 := by omega
  clear h24
  have XR0 : Blk W (nw + 1) [.bool false, .slice none 0 0, .int .i64 0, .int .i64 0] := HXR.out.bel (Bel.refl _)
  have u0 : W.cell? ⟨nw + 1, 0, none⟩ = some (.bool false) := XR0.cell 0 (by simp)
  have u1 : W.cell? ⟨nw + 1, 1, none⟩ = some (.slice none 0 0) := XR0.cell 1 (by simp)
  have u2 : W.cell? ⟨nw + 1, 2, none⟩ = some (.int .i64 0) := XR0.cell 2 (by simp)
  have u3 : W.cell? ⟨nw + 1, 3, none⟩ = some (.int .i64 0) := XR0.cell 3 (by simp)
  have f0 := XR0.free 0
  have f1 := XR0.free 1
  have f2 := XR0.free 2
  have f3 := XR0.free 3
  have ul := XR0.lt
  have XE := blk_st4 XR0 (.bool false) (.slice none 0 0) (.int .i64 0) (.int .i64 0)
  have r0 := XE.cell 0 (by simp)
  have r1 := XE.cell 1 (by simp)
  have r2 := XE.cell 2 (by simp)
  have r3 := XE.cell 3 (by simp)
  simp only [List.getElem_cons_zero, List.getElem_cons_succ] at r0 r1 r2 r3
  have HBE : Hid (Bel w (st4 W (nw + 1) (.bool false) (.slice none 0 0) (.int .i64 0) (.int .i64 0))) := bel_st4 (hBW) hle
  obtain ⟨XZ, HXZ⟩ : ∃ T, Hid (T = st4 W (nw + 1) (.bool false) (.slice none 0 0) (.int .i64 0) (.int .i64 0)) := ⟨_, (rfl : st4 W (nw + 1) (.bool false) (.slice none 0 0) (.int .i64 0) (.int .i64 0) = _)⟩
  rw [← HXZ.out] at r0 r1 r2 r3 HBE
  clear XE XR0
  go_wp2
  rw [show (((W.setCell ⟨nw + 1, 0, none⟩ (.bool false)).setCell ⟨nw + 1, 1, none⟩ (.slice none 0 0)).setCell ⟨nw + 1, 2, none⟩ (.int .i64 0)).setCell ⟨nw + 1, 3, none⟩ (.int .i64 0) = XZ from HXZ.out.symm]
  exact bodyPost_ret (v := .agg #[.bool false, .slice none 0 0, .int .i64 0, .int .i64 0]) (by simp [results, Tryz.results6, go_sem, r0, r1, r2, r3]) rfl ⟨by rw [HF.out]; exact PthO.zero _ _, HBE.out⟩
 have hmd : ((m : Int) == 24) = true := by simp; omega
 have hme : ((m : Int) != 24) = false := by simp; omega
 have hmn : (m : Int) = 24 := by omega
 have Hm24 : Hid (m = 24) := h24
 clear h24
 by_cases hs0 : 0 ≤ st
 rotate_left
 ·have HF : Hid (R = ⟨false, [], 0, 0⟩) := (by rw [← HR.out]; exact dlQ_no (fun h => hs0 h.2.2.1) : R = ⟨false, [], 0, 0⟩)
  have hsd : decide (st < 0) = true := by simp; omega
  have hst : st < 0 := by omega
  have XR0 : Blk W (nw + 1) [.bool false, .slice none 0 0, .int .i64 0, .int .i64 0] := HXR.out.bel (Bel.refl _)
  have u0 : W.cell? ⟨nw + 1, 0, none⟩ = some (.bool false) := XR0.cell 0 (by simp)
  have u1 : W.cell? ⟨nw + 1, 1, none⟩ = some (.slice none 0 0) := XR0.cell 1 (by simp)
  have u2 : W.cell? ⟨nw + 1, 2, none⟩ = some (.int .i64 0) := XR0.cell 2 (by simp)
  have u3 : W.cell? ⟨nw + 1, 3, none⟩ = some (.int .i64 0) := XR0.cell 3 (by simp)
  have f0 := XR0.free 0
  have f1 := XR0.free 1
  have f2 := XR0.free 2
  have f3 := XR0.free 3
  have ul := XR0.lt
  have XE := blk_st4 XR0 (.bool false) (.slice none 0 0) (.int .i64 0) (.int .i64 0)
  have r0 := XE.cell 0 (by simp)
  have r1 := XE.cell 1 (by simp)
  have r2 := XE.cell 2 (by simp)
  have r3 := XE.cell 3 (by simp)
  simp only [List.getElem_cons_zero, List.getElem_cons_succ] at r0 r1 r2 r3
  have HBE : Hid (Bel w (st4 W (nw + 1) (.bool false) (.slice none 0 0) (.int .i64 0) (.int .i64 0))) := bel_st4 (hBW) hle
  obtain ⟨XZ, HXZ⟩ : ∃ T, Hid (T = st4 W (nw + 1) (.bool false) (.slice none 0 0) (.int .i64 0) (.int .i64 0)) := ⟨_, (rfl : st4 W (nw + 1) (.bool false) (.slice none 0 0) (.int .i64 0) (.int .i64 0) = _)⟩
  rw [← HXZ.out] at r0 r1 r2 r3 HBE
  clear XE XR0
  go_wp2
  rw [show (((W.setCell ⟨nw + 1, 0, none⟩ (.bool false)).setCell ⟨nw + 1, 1, none⟩ (.slice none 0 0)).setCell ⟨nw + 1, 2, none⟩ (.int .i64 0)).setCell ⟨nw + 1, 3, none⟩ (.int .i64 0) = XZ from HXZ.out.symm]
  exact bodyPost_ret (v := .agg #[.bool false, .slice none 0 0, .int .i64 0, .int .i64 0]) (by simp [results, Tryz.results6, go_sem, r0, r1, r2, r3]) rfl ⟨by rw [HF.out]; exact PthO.zero _ _, HBE.out⟩
 have hsd : decide (st < 0) = false := by simp; omega
 have hsn : ¬ st < 0 := by omega
 by_cases hs1 : st < 86400
 rotate_left
 ·have HF : Hid (R = ⟨false, [], 0, 0⟩) := (by rw [← HR.out]; exact dlQ_no (fun h => hs1 h.2.2.2) : R = ⟨false, [], 0, 0⟩)
  have hsd1 : decide ((86400 : Int) ≤ st) = true := by simp; omega
  have hst : (86400 : Int) ≤ st := by omega
  have XR0 : Blk W (nw + 1) [.bool false, .slice none 0 0, .int .i64 0, .int .i64 0] := HXR.out.bel (Bel.refl _)
  have u0 : W.cell? ⟨nw + 1, 0, none⟩ = some (.bool false) := XR0.cell 0 (by simp)
  have u1 : W.cell? ⟨nw + 1, 1, none⟩ = some (.slice none 0 0) := XR0.cell 1 (by simp)
  have u2 : W.cell? ⟨nw + 1, 2, none⟩ = some (.int .i64 0) := XR0.cell 2 (by simp)
  have u3 : W.cell? ⟨nw + 1, 3, none⟩ = some (.int .i64 0) := XR0.cell 3 (by simp)
  have f0 := XR0.free 0
  have f1 := XR0.free 1
  have f2 := XR0.free 2
  have f3 := XR0.free 3
  have ul := XR0.lt
  have XE := blk_st4 XR0 (.bool false) (.slice none 0 0) (.int .i64 0) (.int .i64 0)
  have r0 := XE.cell 0 (by simp)
  have r1 := XE.cell 1 (by simp)
  have r2 := XE.cell 2 (by simp)
  have r3 := XE.cell 3 (by simp)
  simp only [List.getElem_cons_zero, List.getElem_cons_succ] at r0 r1 r2 r3
  have HBE : Hid (Bel w (st4 W (nw + 1) (.bool false) (.slice none 0 0) (.int .i64 0) (.int .i64 0))) := bel_st4 (hBW) hle
  obtain ⟨XZ, HXZ⟩ : ∃ T, Hid (T = st4 W (nw + 1) (.bool false) (.slice none 0 0) (.int .i64 0) (.int .i64 0)) := ⟨_, (rfl : st4 W (nw + 1) (.bool false) (.slice none 0 0) (.int .i64 0) (.int .i64 0) = _)⟩
  rw [← HXZ.out] at r0 r1 r2 r3 HBE
  clear XE XR0
  go_wp2
  rw [show (((W.setCell ⟨nw + 1, 0, none⟩ (.bool false)).setCell ⟨nw + 1, 1, none⟩ (.slice none 0 0)).setCell ⟨nw + 1, 2, none⟩ (.int .i64 0)).setCell ⟨nw + 1, 3, none⟩ (.int .i64 0) = XZ from HXZ.out.symm]
  exact bodyPost_ret (v := .agg #[.bool false, .slice none 0 0, .int .i64 0, .int .i64 0]) (by simp [results, Tryz.results6, go_sem, r0, r1, r2, r3]) rfl ⟨by rw [HF.out]; exact PthO.zero _ _, HBE.out⟩
 have hsd1 : decide ((86400 : Int) ≤ st) = false := by simp; omega
 have hsn1 : ¬ (86400 : Int) ≤ st := by omega
 go_wp2_with fail
 refine (specGraphOk_any _ g bs _ (hV'.bel hBW) hQ).mono ?_
 rintro e w1 ⟨rfl, hb1⟩
 have hB1 := bel_step hBW hb1
 by_cases hP : graphP g
 rotate_left
 ·have HF : Hid (R = ⟨false, [], 0, 0⟩) := (by rw [← HR.out]; exact dlQ_no (fun h => hP h.1) : R = ⟨false, [], 0, 0⟩)
  rw [bP_false hP]
  have XR0 : Blk w1 (nw + 1) [.bool false, .slice none 0 0, .int .i64 0, .int .i64 0] := HXR.out.bel (hb1)
  have u0 : w1.cell? ⟨nw + 1, 0, none⟩ = some (.bool false) := XR0.cell 0 (by simp)
  have u1 : w1.cell? ⟨nw + 1, 1, none⟩ = some (.slice none 0 0) := XR0.cell 1 (by simp)
  have u2 : w1.cell? ⟨nw + 1, 2, none⟩ = some (.int .i64 0) := XR0.cell 2 (by simp)
  have u3 : w1.cell? ⟨nw + 1, 3, none⟩ = some (.int .i64 0) := XR0.cell 3 (by simp)
  have f0 := XR0.free 0
  have f1 := XR0.free 1
  have f2 := XR0.free 2
  have f3 := XR0.free 3
  have ul := XR0.lt
  have XE := blk_st4 XR0 (.bool false) (.slice none 0 0) (.int .i64 0) (.int .i64 0)
  have r0 := XE.cell 0 (by simp)
  have r1 := XE.cell 1 (by simp)
  have r2 := XE.cell 2 (by simp)
  have r3 := XE.cell 3 (by simp)
  simp only [List.getElem_cons_zero, List.getElem_cons_succ] at r0 r1 r2 r3
  have HBE : Hid (Bel w (st4 w1 (nw + 1) (.bool false) (.slice none 0 0) (.int .i64 0) (.int .i64 0))) := bel_st4 (hB1) hle
  obtain ⟨XZ, HXZ⟩ : ∃ T, Hid (T = st4 w1 (nw + 1) (.bool false) (.slice none 0 0) (.int .i64 0) (.int .i64 0)) := ⟨_, (rfl : st4 w1 (nw + 1) (.bool false) (.slice none 0 0) (.int .i64 0) (.int .i64 0) = _)⟩
  rw [← HXZ.out] at r0 r1 r2 r3 HBE
  clear XE XR0
  go_wp2
  rw [show (((w1.setCell ⟨nw + 1, 0, none⟩ (.bool false)).setCell ⟨nw + 1, 1, none⟩ (.slice none 0 0)).setCell ⟨nw + 1, 2, none⟩ (.int .i64 0)).setCell ⟨nw + 1, 3, none⟩ (.int .i64 0) = XZ from HXZ.out.symm]
  exact bodyPost_ret (v := .agg #[.bool false, .slice none 0 0, .int .i64 0, .int .i64 0]) (by simp [results, Tryz.results6, go_sem, r0, r1, r2, r3]) rfl ⟨by rw [HF.out]; exact PthO.zero _ _, HBE.out⟩
 rw [bP_true hP]
 have HP : Hid (graphP g) := hP
 have m0 : n0 ≤ 5000 := by rw [← H0.out]; exact hP.1.1
 have m1 : n1 ≤ 8000 := by rw [← H1.out]; exact hP.1.2.1
 have m2 : n2 ≤ 2000 := by rw [← H2.out]; exact hP.1.2.2
 clear hP
 have XG1 := XG.bel hb1
 have x0 : w1.cell? ⟨nw, 0, none⟩ = some (.slice a0 n0 c0) := XG1.cell 0 (by simp)
 have x1 : w1.cell? ⟨nw, 1, none⟩ = some (.slice a1 n1 c1) := XG1.cell 1 (by simp)
 have x2 : w1.cell? ⟨nw, 2, none⟩ = some (.slice a2 n2 c2) := XG1.cell 2 (by simp)
 have xl := XG1.lt
 rcases Bool.eq_false_or_eq_true (inN n0 si) with hsx | hsx
 rotate_left
 ·have HF : Hid (R = ⟨false, [], 0, 0⟩) := (by rw [← HR.out]; exact dlQ_spot (fun h => by have := h.1; rw [H0.out, hsx] at this; cases this) : R = ⟨false, [], 0, 0⟩)
  go_wp2_with fail
  refine (l10SpotIs_r _ _ _ _ _ _ _ _ _ _ false _ hsx).mono ?_
  rintro e w2 ⟨rfl, hb2⟩
  have XR0 : Blk w2 (nw + 1) [.bool false, .slice none 0 0, .int .i64 0, .int .i64 0] := HXR.out.bel (bel_step hb1 hb2)
  have u0 : w2.cell? ⟨nw + 1, 0, none⟩ = some (.bool false) := XR0.cell 0 (by simp)
  have u1 : w2.cell? ⟨nw + 1, 1, none⟩ = some (.slice none 0 0) := XR0.cell 1 (by simp)
  have u2 : w2.cell? ⟨nw + 1, 2, none⟩ = some (.int .i64 0) := XR0.cell 2 (by simp)
  have u3 : w2.cell? ⟨nw + 1, 3, none⟩ = some (.int .i64 0) := XR0.cell 3 (by simp)
  have f0 := XR0.free 0
  have f1 := XR0.free 1
  have f2 := XR0.free 2
  have f3 := XR0.free 3
  have ul := XR0.lt
  have XE := blk_st4 XR0 (.bool false) (.slice none 0 0) (.int .i64 0) (.int .i64 0)
  have r0 := XE.cell 0 (by simp)
  have r1 := XE.cell 1 (by simp)
  have r2 := XE.cell 2 (by simp)
  have r3 := XE.cell 3 (by simp)
  simp only [List.getElem_cons_zero, List.getElem_cons_succ] at r0 r1 r2 r3
  have HBE : Hid (Bel w (st4 w2 (nw + 1) (.bool false) (.slice none 0 0) (.int .i64 0) (.int .i64 0))) := bel_st4 (bel_step hB1 hb2) hle
  obtain ⟨XZ, HXZ⟩ : ∃ T, Hid (T = st4 w2 (nw + 1) (.bool false) (.slice none 0 0) (.int .i64 0) (.int .i64 0)) := ⟨_, (rfl : st4 w2 (nw + 1) (.bool false) (.slice none 0 0) (.int .i64 0) (.int .i64 0) = _)⟩
  rw [← HXZ.out] at r0 r1 r2 r3 HBE
  clear XE XR0
  go_wp2
  rw [show (((w2.setCell ⟨nw + 1, 0, none⟩ (.bool false)).setCell ⟨nw + 1, 1, none⟩ (.slice none 0 0)).setCell ⟨nw + 1, 2, none⟩ (.int .i64 0)).setCell ⟨nw + 1, 3, none⟩ (.int .i64 0) = XZ from HXZ.out.symm]
  exact bodyPost_ret (v := .agg #[.bool false, .slice none 0 0, .int .i64 0, .int .i64 0]) (by simp [results, Tryz.results6, go_sem, r0, r1, r2, r3]) rfl ⟨by rw [HF.out]; exact PthO.zero _ _, HBE.out⟩
 go_wp2_with fail
 refine (l10SpotIs_r _ _ _ _ _ _ _ _ _ _ true _ hsx).mono ?_
 rintro e w2 ⟨rfl, hb2⟩
 have hW2 := bel_step hb1 hb2
 have hB2 := bel_step hB1 hb2
 have XG2 := XG1.bel hb2
 have x0 : w2.cell? ⟨nw, 0, none⟩ = some (.slice a0 n0 c0) := XG2.cell 0 (by simp)
 have x1 : w2.cell? ⟨nw, 1, none⟩ = some (.slice a1 n1 c1) := XG2.cell 1 (by simp)
 have x2 : w2.cell? ⟨nw, 2, none⟩ = some (.slice a2 n2 c2) := XG2.cell 2 (by simp)
 have xl := XG2.lt
 rcases Bool.eq_false_or_eq_true (inN n0 ti) with htx | htx
 rotate_left
 ·have HF : Hid (R = ⟨false, [], 0, 0⟩) := (by rw [← HR.out]; exact dlQ_spot (fun h => by have := h.2; rw [H0.out, htx] at this; cases this) : R = ⟨false, [], 0, 0⟩)
  go_wp2_with fail
  refine (l10SpotIs_r _ _ _ _ _ _ _ _ _ _ false _ htx).mono ?_
  rintro e w3 ⟨rfl, hb3⟩
  have XR0 : Blk w3 (nw + 1) [.bool false, .slice none 0 0, .int .i64 0, .int .i64 0] := HXR.out.bel (bel_step hW2 hb3)
  have u0 : w3.cell? ⟨nw + 1, 0, none⟩ = some (.bool false) := XR0.cell 0 (by simp)
  have u1 : w3.cell? ⟨nw + 1, 1, none⟩ = some (.slice none 0 0) := XR0.cell 1 (by simp)
  have u2 : w3.cell? ⟨nw + 1, 2, none⟩ = some (.int .i64 0) := XR0.cell 2 (by simp)
  have u3 : w3.cell? ⟨nw + 1, 3, none⟩ = some (.int .i64 0) := XR0.cell 3 (by simp)
  have f0 := XR0.free 0
  have f1 := XR0.free 1
  have f2 := XR0.free 2
  have f3 := XR0.free 3
  have ul := XR0.lt
  have XE := blk_st4 XR0 (.bool false) (.slice none 0 0) (.int .i64 0) (.int .i64 0)
  have r0 := XE.cell 0 (by simp)
  have r1 := XE.cell 1 (by simp)
  have r2 := XE.cell 2 (by simp)
  have r3 := XE.cell 3 (by simp)
  simp only [List.getElem_cons_zero, List.getElem_cons_succ] at r0 r1 r2 r3
  have HBE : Hid (Bel w (st4 w3 (nw + 1) (.bool false) (.slice none 0 0) (.int .i64 0) (.int .i64 0))) := bel_st4 (bel_step hB2 hb3) hle
  obtain ⟨XZ, HXZ⟩ : ∃ T, Hid (T = st4 w3 (nw + 1) (.bool false) (.slice none 0 0) (.int .i64 0) (.int .i64 0)) := ⟨_, (rfl : st4 w3 (nw + 1) (.bool false) (.slice none 0 0) (.int .i64 0) (.int .i64 0) = _)⟩
  rw [← HXZ.out] at r0 r1 r2 r3 HBE
  clear XE XR0
  go_wp2
  rw [show (((w3.setCell ⟨nw + 1, 0, none⟩ (.bool false)).setCell ⟨nw + 1, 1, none⟩ (.slice none 0 0)).setCell ⟨nw + 1, 2, none⟩ (.int .i64 0)).setCell ⟨nw + 1, 3, none⟩ (.int .i64 0) = XZ from HXZ.out.symm]
  exact bodyPost_ret (v := .agg #[.bool false, .slice none 0 0, .int .i64 0, .int .i64 0]) (by simp [results, Tryz.results6, go_sem, r0, r1, r2, r3]) rfl ⟨by rw [HF.out]; exact PthO.zero _ _, HBE.out⟩
 go_wp2_with fail
 refine (l10SpotIs_r _ _ _ _ _ _ _ _ _ _ true _ htx).mono ?_
 rintro e w3 ⟨rfl, hb3⟩
 have hW3 := bel_step hW2 hb3
 have hB3 := bel_step hB2 hb3
 have XG3 := XG2.bel hb3
 have hI3 := hI.bel intE hB3
 clear x0 x1 x2 xl XG XG1 XG2 hV'
 go_wp2
 go_loopw [11] (fun i wr => ∃ k : Nat, k ≤ 24 ∧ i = .int .i64 k ∧ (∀ j (h : j < l.length), j < k → 1 ≤ l[j] ∧ l[j] ≤ 10000) ∧ wr = w3) (fun i _ => 24 - (intOf i).toNat)
 case atStart => exact ⟨0, Nat.zero_le _, rfl, fun j _ hj => absurd hj (Nat.not_lt_zero _), rfl⟩
 case round =>
  obtain ⟨k, hk, rfl, hall, rfl⟩ := hrel
  have H : Hid (∀ j (h : j < l.length), j < k → 1 ≤ l[j] ∧ l[j] ≤ 10000) := hall
  clear hall
  by_cases hlt : k < 24
  ·have hkl : k < l.length := by rw [HL.out, Hm24.out]; exact hlt
   obtain ⟨b, off, f, rfl, hb, hx⟩ := hI3.out hkl
   have hxk := hx k hkl
   obtain ⟨d, Hd⟩ : ∃ d, Hid (l[k] = d) := ⟨_, (rfl : l[k] = _)⟩
   rw [Hd.out] at hxk
   have ck : wr.cell? ⟨b, off + k, none⟩ = some (.int .i64 d) := by simpa using hxk.2.2
   clear hxk
   have hkI : (k : Int) < (m : Int) := by omega
   have hkJ : (k : Int) < 24 := by omega
   clear hx
   by_cases hd1 : d < 1
   ·have HF : Hid (R = ⟨false, [], 0, 0⟩) := (by rw [← HR.out]; exact dlQ_no (fun h => by have := h.2.1.2 k hkl; rw [Hd.out] at this; omega) : R = ⟨false, [], 0, 0⟩)
    have hdd : decide (d < 1) = true := by simp; omega
    have XR0 : Blk wr (nw + 1) [.bool false, .slice none 0 0, .int .i64 0, .int .i64 0] := HXR.out.bel (hW3)
    have u0 : wr.cell? ⟨nw + 1, 0, none⟩ = some (.bool false) := XR0.cell 0 (by simp)
    have u1 : wr.cell? ⟨nw + 1, 1, none⟩ = some (.slice none 0 0) := XR0.cell 1 (by simp)
    have u2 : wr.cell? ⟨nw + 1, 2, none⟩ = some (.int .i64 0) := XR0.cell 2 (by simp)
    have u3 : wr.cell? ⟨nw + 1, 3, none⟩ = some (.int .i64 0) := XR0.cell 3 (by simp)
    have f0 := XR0.free 0
    have f1 := XR0.free 1
    have f2 := XR0.free 2
    have f3 := XR0.free 3
    have ul := XR0.lt
    have XE := blk_st4 XR0 (.bool false) (.slice none 0 0) (.int .i64 0) (.int .i64 0)
    have r0 := XE.cell 0 (by simp)
    have r1 := XE.cell 1 (by simp)
    have r2 := XE.cell 2 (by simp)
    have r3 := XE.cell 3 (by simp)
    simp only [List.getElem_cons_zero, List.getElem_cons_succ] at r0 r1 r2 r3
    have HBE : Hid (Bel w (st4 wr (nw + 1) (.bool false) (.slice none 0 0) (.int .i64 0) (.int .i64 0))) := bel_st4 (hB3) hle
    obtain ⟨XZ, HXZ⟩ : ∃ T, Hid (T = st4 wr (nw + 1) (.bool false) (.slice none 0 0) (.int .i64 0) (.int .i64 0)) := ⟨_, (rfl : st4 wr (nw + 1) (.bool false) (.slice none 0 0) (.int .i64 0) (.int .i64 0) = _)⟩
    rw [← HXZ.out] at r0 r1 r2 r3 HBE
    clear XE XR0
    go_wp2
    rw [show (((wr.setCell ⟨nw + 1, 0, none⟩ (.bool false)).setCell ⟨nw + 1, 1, none⟩ (.slice none 0 0)).setCell ⟨nw + 1, 2, none⟩ (.int .i64 0)).setCell ⟨nw + 1, 3, none⟩ (.int .i64 0) = XZ from HXZ.out.symm]
    exact bodyPost_ret (v := .agg #[.bool false, .slice none 0 0, .int .i64 0, .int .i64 0]) (by simp [results, Tryz.results6, go_sem, r0, r1, r2, r3]) rfl ⟨by rw [HF.out]; exact PthO.zero _ _, HBE.out⟩
   have hdd : decide (d < 1) = false := by simp; omega
   by_cases hd2 : 10000 < d
   ·have HF : Hid (R = ⟨false, [], 0, 0⟩) := (by rw [← HR.out]; exact dlQ_no (fun h => by have := h.2.1.2 k hkl; rw [Hd.out] at this; omega) : R = ⟨false, [], 0, 0⟩)
    have hde : decide (10000 < d) = true := by simp; omega
    have XR0 : Blk wr (nw + 1) [.bool false, .slice none 0 0, .int .i64 0, .int .i64 0] := HXR.out.bel (hW3)
    have u0 : wr.cell? ⟨nw + 1, 0, none⟩ = some (.bool false) := XR0.cell 0 (by simp)
    have u1 : wr.cell? ⟨nw + 1, 1, none⟩ = some (.slice none 0 0) := XR0.cell 1 (by simp)
    have u2 : wr.cell? ⟨nw + 1, 2, none⟩ = some (.int .i64 0) := XR0.cell 2 (by simp)
    have u3 : wr.cell? ⟨nw + 1, 3, none⟩ = some (.int .i64 0) := XR0.cell 3 (by simp)
    have f0 := XR0.free 0
    have f1 := XR0.free 1
    have f2 := XR0.free 2
    have f3 := XR0.free 3
    have ul := XR0.lt
    have XE := blk_st4 XR0 (.bool false) (.slice none 0 0) (.int .i64 0) (.int .i64 0)
    have r0 := XE.cell 0 (by simp)
    have r1 := XE.cell 1 (by simp)
    have r2 := XE.cell 2 (by simp)
    have r3 := XE.cell 3 (by simp)
    simp only [List.getElem_cons_zero, List.getElem_cons_succ] at r0 r1 r2 r3
    have HBE : Hid (Bel w (st4 wr (nw + 1) (.bool false) (.slice none 0 0) (.int .i64 0) (.int .i64 0))) := bel_st4 (hB3) hle
    obtain ⟨XZ, HXZ⟩ : ∃ T, Hid (T = st4 wr (nw + 1) (.bool false) (.slice none 0 0) (.int .i64 0) (.int .i64 0)) := ⟨_, (rfl : st4 wr (nw + 1) (.bool false) (.slice none 0 0) (.int .i64 0) (.int .i64 0) = _)⟩
    rw [← HXZ.out] at r0 r1 r2 r3 HBE
    clear XE XR0
    go_wp2
    rw [show (((wr.setCell ⟨nw + 1, 0, none⟩ (.bool false)).setCell ⟨nw + 1, 1, none⟩ (.slice none 0 0)).setCell ⟨nw + 1, 2, none⟩ (.int .i64 0)).setCell ⟨nw + 1, 3, none⟩ (.int .i64 0) = XZ from HXZ.out.symm]
    exact bodyPost_ret (v := .agg #[.bool false, .slice none 0 0, .int .i64 0, .int .i64 0]) (by simp [results, Tryz.results6, go_sem, r0, r1, r2, r3]) rfl ⟨by rw [HF.out]; exact PthO.zero _ _, HBE.out⟩
   have hde : decide (10000 < d) = false := by simp; omega
   go_wp2
   go_roundw
   case rel => exact ⟨k + 1, by omega, by go_num, fun j hj hjk => by
           (by_cases e : j = k)
           ·subst e; rw [Hd.out]; omega
           ·exact H.out j hj (by omega), by trivial⟩
   case measure => simp [intOf]; omega
  ·have hkn : ¬ (k : Int) < 24 := by omega
   have hkd : decide ((k : Int) < 24) = false := by simp; omega
   obtain ⟨w3, rfl⟩ : ∃ V, V = wr := ⟨_, rfl⟩
   have HH : Hid (hrP l) := fun j hj => H.out j hj (by rw [HL.out, Hm24.out] at hj; omega)
   clear H hk hlt
   obtain ⟨kh, Hk⟩ : ∃ k, Hid ((st / 3600).toNat = k) := ⟨_, (rfl : (st / 3600).toNat = _)⟩
   have hk24 : kh < 24 := by rw [← Hk.out]; omega
   have hkl : kh < l.length := by rw [HL.out, Hm24.out]; exact hk24
   obtain ⟨p, Hp⟩ : ∃ p, Hid (l[kh] = p) := ⟨_, (rfl : l[kh] = _)⟩
   have HF : Hid (R = bpQ (slG g p) si ti) := (by rw [← HR.out, dlQ_at HP.out (HL.out.trans Hm24.out) HH.out ⟨hs0, hs1⟩ hkl Hk.out, Hp.out] : R = bpQ (slG g p) si ti)
   have hp : 1 ≤ p ∧ p ≤ 10000 := by rw [← Hp.out]; exact HH.out kh hkl
   obtain ⟨bh, oh, fh, rfl, hbh, hxh⟩ := hI.out hkl
   have hxk := hxh kh hkl
   rw [Hp.out] at hxk
   have ck0 : w.cell? ⟨bh, oh + kh, none⟩ = some (.int .i64 p) := by simpa using hxk.2.2
   have hck : ∀ w', Bel w w' → w'.cell? ⟨bh, oh + kh, none⟩ = some (.int .i64 p) := fun w' h => bel_cellM h hbh ck0
   clear hxh hxk ck0
   have hq : Int.tdiv st 3600 = (kh : Int) := by rw [Int.tdiv_eq_ediv_of_nonneg hs0, ← Hk.out]; omega
   have hqw : IntKind.i64.wrap (Int.tdiv st 3600) = (kh : Int) := by rw [hq, IntKind.wrap_i64]; omega
   have hkw : IntKind.i64.wrap (kh : Int) = (kh : Int) := by rw [IntKind.wrap_i64]; omega
   have hkmI : (kh : Int) < (m : Int) := by omega
   have hkhJ : (kh : Int) < 24 := by omega
   have x0 : w3.cell? ⟨nw, 0, none⟩ = some (.slice a0 n0 c0) := XG3.cell 0 (by simp)
   have x1 : w3.cell? ⟨nw, 1, none⟩ = some (.slice a1 n1 c1) := XG3.cell 1 (by simp)
   have x2 : w3.cell? ⟨nw, 2, none⟩ = some (.slice a2 n2 c2) := XG3.cell 2 (by simp)
   have xl := XG3.lt
   have hz : w.heap.size ≤ w3.heap.size := hB3.out.size
   go_wp2_with fail
   refine (l9Copy_any _ _ _ _ _ _ _ _ _ g b0 b1 b2 _ (t0.bel spotE hB3) (t1.bel roadE hB3) (t2.bel banE hB3) H0.out H1.out H2.out (by omega) (by omega) (by omega)).mono ?_
   rintro e w4 ⟨v', bs', rfl, V2, F2, hb4⟩
   obtain ⟨p0, q0, p1, q1, p2, q2, d0, d1, d2, rfl, rfl, T0, T1, T2⟩ := V2
   simp only [H0.out, H1.out, H2.out]
   obtain ⟨wA, HwA⟩ : ∃ wA, Hid (wA = w4.alloc (.cells #[.slice p0 n0 q0, .slice p1 n1 q1, .slice p2 n2 q2] 36)) := ⟨_, (rfl : w4.alloc (.cells #[.slice p0 n0 q0, .slice p1 n1 q1, .slice p2 n2 q2] 36) = _)⟩
   have hbA : Bel w4 wA := by rw [HwA.out]; exact bel_alloc (Bel.refl _) _
   have XB : Blk wA w4.heap.size [.slice p0 n0 q0, .slice p1 n1 q1, .slice p2 n2 q2] := by rw [HwA.out]; exact Blk.new w4 [.slice p0 n0 q0, .slice p1 n1 q1, .slice p2 n2 q2] _
   obtain ⟨Bx, HBx⟩ : ∃ n, Hid (w4.heap.size = n) := ⟨_, (rfl : w4.heap.size = _)⟩
   rw [HBx.out] at XB
   have hBA : Bel w3 wA := bel_step hb4 hbA
   have HF2 : Fresh w3 wA (d0 ++ (d1 ++ d2)) := F2.bel hbA
   have hoff1 : Hid (∀ x ∈ d1, x ≠ Bx) := fun x hx e => by have := (F2.new x (List.mem_append.2 (.inr (List.mem_append.2 (.inl hx))))).2; have := HBx.out; omega
   have hd := F2.nd
   obtain ⟨_, nd12, y0⟩ := List.nodup_append.1 hd
   obtain ⟨_, _, y1⟩ := List.nodup_append.1 nd12
   have D01 : Hid (∀ x ∈ d1, x ∉ d0) := fun x hx hy => y0 x hy x (List.mem_append.2 (.inl hx)) rfl
   have D12 : Hid (∀ x ∈ d1, x ∉ d2) := fun x hx hy => y1 x hx x hy rfl
   have T1' : RoadL wA p1 (slL (fun _ => true) p g.roads 0) d1 := by rw [slL_zero]; exact T1.bel roadE hbA
   have T0' := T0.bel spotE hbA
   have T2' := T2.bel banE hbA
   have HBr3 : Hid (Bel w w3) := hB3
   have HW3 : Hid (Bel W w3) := hW3
   have h43 : nw + 1 < w3.heap.size := (HXR.out.bel hW3).lt
   have h4B : w3.heap.size ≤ Bx := by rw [← HBx.out]; exact hb4.out.size
   clear hd nd12 y0 y1 T1 T0 T2 F2 x0 x1 x2 xl hI hI3 t0 t1 t2
   go_wp2
   rw [← HwA.out, HBx.out]
   clear HwA
   go_loopw [13] (fun i wr => ∃ k : Nat, k ≤ n1 ∧ i = .int .i64 k ∧ RoadL wr p1 (slL (fun _ => true) p g.roads k) d1 ∧ SpotL wr p0 g.places d0 ∧ BanL wr p2 g.bans d2 ∧ Blk wr Bx [.slice p0 n0 q0, .slice p1 n1 q1, .slice p2 n2 q2] ∧ Fresh w3 wr (d0 ++ (d1 ++ d2)) ∧ Bel w3 wr) (fun i _ => n1 - (intOf i).toNat)
   case atStart => exact ⟨0, Nat.zero_le _, rfl, T1', T0', T2', XB, HF2, hBA⟩
   case round =>
    clear T1' T0' T2' XB HF2 hBA
    obtain ⟨k, hkk, rfl, T1, T0, T2, XB, HFr, hBr⟩ := hrel
    have z1 : wr.cell? ⟨Bx, 1, none⟩ = some (.slice p1 n1 q1) := XB.cell 1 (by simp)
    have zl := XB.lt
    have hc1 := hck wr (bel_step HBr3.out hBr)
    by_cases hlt : k < n1
    ·have hkl : k < g.roads.length := by rw [H1.out]; exact hlt
     have hkl' : k < (slL (fun _ => true) p g.roads k).length := by rw [slL_len]; exact hkl
     obtain ⟨b, off, f, rfl, hb, hx⟩ := T1.out hkl'
     have hbd := sl_mem T1 hkl'
     have hxk := hx k hkl'
     have HE : Hid ((slL (fun _ => true) p g.roads k)[k] = g.roads[k]) := slL_ge hkl (Nat.le_refl _)
     rw [HE.out] at hxk
     have hro := roadB_out (HP.out.2.2.1 k hkl)
     obtain ⟨d, Hd⟩ : ∃ d, Hid (g.roads[k] = d) := ⟨_, (rfl : g.roads[k] = _)⟩
     rw [Hd.out] at hxk hro
     obtain ⟨_, _, _, _, _, _, _, _, _, y2, y3, _⟩ := hxk
     have hti := hro.2.2.2.1
     have hkI : (k : Int) < (n1 : Int) := by omega
     clear hx hro
     have fz := HFr.free b (List.mem_append.2 (.inr (List.mem_append.2 (.inl hbd)))) (off + k * 6 + 3)
     have hbV := (HFr.new b (List.mem_append.2 (.inr (List.mem_append.2 (.inl hbd))))).1
     have hne := hoff1.out b hbd
     have hne' : Bx ≠ b := fun e => hne e.symm
     have hnh : b ≠ bh := by have := hbh; omega
     obtain ⟨Y, HY⟩ : ∃ Y, Hid (slwT d.time p = Y) := ⟨_, (rfl : slwT d.time p = _)⟩
     have hsb := slwT_bd hti hp
     rw [HY.out] at hsb
     have cS : ∀ w', Calls Tryz.prog 28 #[.int .i64 d.time, .int .i64 p] w' fun e w'' => e = .returned (.int .i64 Y) ∧ w'' = w' := fun w' => by rw [← HY.out]; exact l11Slow_any _ _ _ hti hp
     have HT1 : Hid (RoadL (wr.setCell ⟨b, off + k * 6 + 3, none⟩ (.int .i64 Y)).drew (some ⟨b, off, none⟩) (slL (fun _ => true) p g.roads (k + 1)) d1) := (by
      have h1 := road_set T1 hkl' HE.out (t := Y) ⟨by omega, by omega⟩
      rw [Hd.out] at h1
      have h2 := slL_yes (S := fun _ => true) (p := p) hkl rfl
      rw [Hd.out] at h2
      unfold slwD at h2
      rw [HY.out] at h2
      rw [← h2]
      exact h1.bel roadE (Bel.refl _).drew : RoadL (wr.setCell ⟨b, off + k * 6 + 3, none⟩ (.int .i64 Y)).drew (some ⟨b, off, none⟩) (slL (fun _ => true) p g.roads (k + 1)) d1)
     have HT0 : Hid (SpotL (wr.setCell ⟨b, off + k * 6 + 3, none⟩ (.int .i64 Y)).drew p0 g.places d0) := (T0.alike spotE ((Alike.refl (T0.lt spotE)).set (D01.out b hbd) _ _)).bel spotE (Bel.refl _).drew
     have HT2 : Hid (BanL (wr.setCell ⟨b, off + k * 6 + 3, none⟩ (.int .i64 Y)).drew p2 g.bans d2) := (T2.alike banE ((Alike.refl (T2.lt banE)).set (D12.out b hbd) _ _)).bel banE (Bel.refl _).drew
     have HXB : Hid (Blk (wr.setCell ⟨b, off + k * 6 + 3, none⟩ (.int .i64 Y)).drew Bx [.slice p0 n0 q0, .slice (some ⟨b, off, none⟩) n1 q1, .slice p2 n2 q2]) := (XB.far (hoff1.out b hbd)).bel (Bel.refl _).drew
     have HFF : Hid (Fresh w3 (wr.setCell ⟨b, off + k * 6 + 3, none⟩ (.int .i64 Y)).drew (d0 ++ (d1 ++ d2))) := Fresh.bel ⟨HFr.nd, fun x hx => ⟨(HFr.new x hx).1, by simpa [World.setCell] using (HFr.new x hx).2⟩, fun x hx j => by rw [World.frozen?_setCell]; exact HFr.free x hx j⟩ (Bel.refl _).drew
     have HBB : Hid (Bel w3 (wr.setCell ⟨b, off + k * 6 + 3, none⟩ (.int .i64 Y)).drew) := (bel_set hBr hbV _).drew
     have g1 : (fun w' => w'.cell? ⟨Bx, 1, none⟩ = some (.slice (some ⟨b, off, none⟩) n1 q1) ∧ w'.cell? ⟨bh, oh + kh, none⟩ = some (.int .i64 p)) wr.drew := ⟨z1, hc1⟩
     have gk : ∀ w' : World, (fun w' => w'.cell? ⟨Bx, 1, none⟩ = some (.slice (some ⟨b, off, none⟩) n1 q1) ∧ w'.cell? ⟨bh, oh + kh, none⟩ = some (.int .i64 p)) w' → (fun w' => w'.cell? ⟨Bx, 1, none⟩ = some (.slice (some ⟨b, off, none⟩) n1 q1) ∧ w'.cell? ⟨bh, oh + kh, none⟩ = some (.int .i64 p)) (w'.setCell ⟨b, off + k * 6 + 3, none⟩ (.int .i64 Y)) := fun w' h => ⟨by rw [World.cell?_setCell_other _ _ _ _ (fun e => hne (congrArg Addr.block e))]; exact h.1, by rw [World.cell?_setCell_other _ _ _ _ (fun e => hnh (congrArg Addr.block e))]; exact h.2⟩
     clear T1 T0 T2 XB HFr hc1
     go_upto_region 12 with fail
     refine wp_region_noPanic ?_
     refine wp_region_held_drew (S := (fun w' => w'.cell? ⟨Bx, 1, none⟩ = some (.slice (some ⟨b, off, none⟩) n1 q1) ∧ w'.cell? ⟨bh, oh + kh, none⟩ = some (.int .i64 p))) (by kernel_rfl) (g1) (fun hHeld => ?_)
     refine tk 0 hHeld ?_; refine tk 1 hHeld ?_; refine tk 2 hHeld ?_; refine tk 3 hHeld ?_; refine tk 4 hHeld ?_; refine tk 5 hHeld ?_
     refine tk 6 hHeld ?_; refine tk 7 hHeld ?_; refine tk 9 hHeld ?_; refine tk 10 hHeld ?_; refine tk 11 hHeld ?_; refine tk 12 hHeld ?_
     refine tk 13 hHeld ?_
     refine rd1 8 (fun K hK => ?_)
     go_simp
     refine hK.out _ _ (hHeld) ?_; clear hK K hHeld; intro hHeld
     try simp only [Act.put, List.setIfInBounds_toArray, List.set_cons_zero, List.set_cons_succ]
     refine rd1 14 (fun K hK => ?_)
     go_simp
     refine (cS _).mono ?_
     rintro e w5 ⟨rfl, rfl⟩
     go_wp2_with fail
     refine hK.out _ _ (hHeld) ?_; clear hK K hHeld; intro hHeld
     try simp only [Act.put, List.setIfInBounds_toArray, List.set_cons_zero, List.set_cons_succ]
     refine tk 15 hHeld ?_; refine tk 16 hHeld ?_
     refine rd1 17 (fun K hK => ?_)
     go_simp
     refine hK.out _ _ (gk _ hHeld) ?_; clear hK K hHeld; intro hHeld
     try simp only [Act.put, List.setIfInBounds_toArray, List.set_cons_zero, List.set_cons_succ]
     refine wpAnyH_done (by kernel_rfl) ?_ _
     refine NoPanic.normal ?_
     go_wp2
     go_roundw
     case rel => exact ⟨k + 1, by omega, by go_num, HT1.out, HT0.out, HT2.out, HXB.out, HFF.out, HBB.out⟩
     case measure => simp [intOf]; omega
    ·obtain rfl : k = n1 := by omega
     obtain ⟨wB, rfl⟩ : ∃ V, V = wr := ⟨_, rfl⟩
     have v0 := XB.cell 0 (by simp)
     have v2 := XB.cell 2 (by simp)
     simp only [List.getElem_cons_zero, List.getElem_cons_succ] at v0 v2
     rw [← H1.out, slL_all] at T1
     have hBB := bel_step HBr3.out hBr
     have VB : GphV wB (.agg #[.slice p0 n0 q0, .slice p1 k q1, .slice p2 n2 q2]) (slG g p) (d0 ++ (d1 ++ d2)) := ⟨p0, q0, p1, q1, p2, q2, d0, d1, d2, rfl, by simp only [slG, List.length_map, H0.out, H1.out, H2.out], T0, T1, T2⟩
     have cB := HBk.out _ (slG g p) _ si ti wB VB (slG_q hQ)
     clear T0 T1 T2 HFr VB hc1
     go_wp2_with fail
     refine cB.mono ?_
     rintro e w5 ⟨hO, hb5⟩
     rw [← HF.out] at hO
     obtain ⟨va, vc, rfl, hOw⟩ := hO.out
     clear hO
     obtain ⟨ok, fs, tm, ln⟩ := R
     dsimp only at hOw ⊢
     obtain ⟨fl, Hfl⟩ : ∃ n, Hid (fs.length = n) := ⟨_, (rfl : fs.length = _)⟩
     rw [Hfl.out] at hOw ⊢
     clear cB v0 v2 z1 zl
     have XR3 := HXR.out.bel (bel_step HW3.out (bel_step hBr hb5))
     have XE := blk_st4 XR3 (.bool ok) (.slice va fl vc) (.int .i64 tm) (.int .i64 ln)
     have r0 := XE.cell 0 (by simp)
     have r1 := XE.cell 1 (by simp)
     have r2 := XE.cell 2 (by simp)
     have r3 := XE.cell 3 (by simp)
     simp only [List.getElem_cons_zero, List.getElem_cons_succ] at r0 r1 r2 r3
     have u0 : w5.cell? ⟨nw + 1, 0, none⟩ = some (.bool false) := XR3.cell 0 (by simp)
     have u1 : w5.cell? ⟨nw + 1, 1, none⟩ = some (.slice none 0 0) := XR3.cell 1 (by simp)
     have u2 : w5.cell? ⟨nw + 1, 2, none⟩ = some (.int .i64 0) := XR3.cell 2 (by simp)
     have u3 : w5.cell? ⟨nw + 1, 3, none⟩ = some (.int .i64 0) := XR3.cell 3 (by simp)
     have f0 := XR3.free 0
     have f1 := XR3.free 1
     have f2 := XR3.free 2
     have f3 := XR3.free 3
     have yl := XR3.lt
     have HBE : Hid (Bel w (st4 w5 (nw + 1) (.bool ok) (.slice va fl vc) (.int .i64 tm) (.int .i64 ln))) := bel_st4 (bel_step hBB hb5) hle
     have hYn : nw + 1 < wB.heap.size := Nat.lt_of_lt_of_le h43 hBr.out.size
     have HOE : Hid ((st4 w5 (nw + 1) (.bool ok) (.slice va fl vc) (.int .i64 tm) (.int .i64 ln)).ownsRow w.heap.size 2 1 (.slice va fl vc) fl (intsN fs)) := own_lo (own_blk (own_blk (own_blk (own_blk hOw hYn) hYn) hYn) hYn) hBB.out.size
     obtain ⟨XZ, HXZ⟩ : ∃ T, Hid (T = st4 w5 (nw + 1) (.bool ok) (.slice va fl vc) (.int .i64 tm) (.int .i64 ln)) := ⟨_, (rfl : st4 w5 (nw + 1) (.bool ok) (.slice va fl vc) (.int .i64 tm) (.int .i64 ln) = _)⟩
     rw [← HXZ.out] at r0 r1 r2 r3 HBE HOE
     clear XE XR3 hOw
     go_wp2
     rw [show (((w5.setCell ⟨nw + 1, 0, none⟩ (.bool ok)).setCell ⟨nw + 1, 1, none⟩ (.slice va fl vc)).setCell ⟨nw + 1, 2, none⟩ (.int .i64 tm)).setCell ⟨nw + 1, 3, none⟩ (.int .i64 ln) = XZ from HXZ.out.symm]
     exact bodyPost_ret (v := .agg #[.bool ok, .slice va fl vc, .int .i64 tm, .int .i64 ln]) (by simp [results, Tryz.results6, go_sem, r0, r1, r2, r3]) rfl ⟨⟨va, vc, by rw [Hfl.out], by rw [Hfl.out]; exact HOE.out⟩, HBE.out⟩
end Go.Proofs.YtakedciemnkfhaaGreatDoor
