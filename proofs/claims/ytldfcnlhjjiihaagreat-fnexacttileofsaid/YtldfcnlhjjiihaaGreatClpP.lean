/-
  Clipping in the program: what of a stretch lies in the box. Contract.
-/
import Derived.Test.YtldfcnlhjjiihaaGreatGA
import Derived.Test.YtldfcnlhjjiihaaGreatCF
import Derived.Test.YtldfcnlhjjiihaaGreatCC
import Derived.Deep.DeepCutAuto
import Derived.Laws.EntriesVeiled
import Derived.BigRegion
namespace Go.Proofs.YtldfcnlhjjiihaaGreat
open Go.RowKit

/-- The scissors of a box, cell by cell. -/
def sciL (q : BoxD) : List Value := [.int .i64 q.a, .int .i64 q.b, .int .i64 q.c, .int .i64 q.d, .int .i64 q.a, .func (.func 123) #[] #[], .func (.func 124) #[] #[], .int .i64 q.c, .func (.func 125) #[] #[], .func (.func 124) #[] #[], .int .i64 q.b, .func (.func 126) #[] #[], .func (.func 127) #[] #[], .int .i64 q.d, .func (.func 128) #[] #[], .func (.func 127) #[] #[]]
abbrev sci (q : BoxD) : Value := .agg #[.int .i64 q.a, .int .i64 q.b, .int .i64 q.c, .int .i64 q.d, .int .i64 q.a, .func (.func 123) #[] #[], .func (.func 124) #[] #[], .int .i64 q.c, .func (.func 125) #[] #[], .func (.func 124) #[] #[], .int .i64 q.b, .func (.func 126) #[] #[], .func (.func 127) #[] #[], .int .i64 q.d, .func (.func 128) #[] #[], .func (.func 127) #[] #[]]
set_option maxRecDepth 100000 in
set_option maxHeartbeats 2000000 in
theorem scissorsOf_any (q : BoxD) (w : World) :
  Calls Tryz.prog 97 #[bxv q] w fun r w' => r = .returned (sci q) ∧ Bel w w' := by
 go_enter Tryz.func97, Tryz.ntmps97
 go_wp2
 exact bodyPost_ret (v := sci q) (by simp [results, Tryz.results97, go_sem]) rfl ⟨rfl, bel_alloc (bel_alloc (Bel.refl _) _) _⟩

theorem idx0 (q : BoxD) (w : World) : Sem.run Tryz.prog (Instr.index 170 (.agg #[.int .i64 q.a, .func (.func 123) #[] #[], .func (.func 124) #[] #[], .int .i64 q.c, .func (.func 125) #[] #[], .func (.func 124) #[] #[], .int .i64 q.b, .func (.func 126) #[] #[], .func (.func 127) #[] #[], .int .i64 q.d, .func (.func 128) #[] #[], .func (.func 127) #[] #[]]) (.int .i64 0)) w = .ok (.agg #[.int .i64 q.a, .func (.func 123) #[] #[], .func (.func 124) #[] #[]]) w := by kernel_rfl
theorem idx1 (q : BoxD) (w : World) : Sem.run Tryz.prog (Instr.index 170 (.agg #[.int .i64 q.a, .func (.func 123) #[] #[], .func (.func 124) #[] #[], .int .i64 q.c, .func (.func 125) #[] #[], .func (.func 124) #[] #[], .int .i64 q.b, .func (.func 126) #[] #[], .func (.func 127) #[] #[], .int .i64 q.d, .func (.func 128) #[] #[], .func (.func 127) #[] #[]]) (.int .i64 1)) w = .ok (.agg #[.int .i64 q.c, .func (.func 125) #[] #[], .func (.func 124) #[] #[]]) w := by kernel_rfl
theorem idx2 (q : BoxD) (w : World) : Sem.run Tryz.prog (Instr.index 170 (.agg #[.int .i64 q.a, .func (.func 123) #[] #[], .func (.func 124) #[] #[], .int .i64 q.c, .func (.func 125) #[] #[], .func (.func 124) #[] #[], .int .i64 q.b, .func (.func 126) #[] #[], .func (.func 127) #[] #[], .int .i64 q.d, .func (.func 128) #[] #[], .func (.func 127) #[] #[]]) (.int .i64 2)) w = .ok (.agg #[.int .i64 q.b, .func (.func 126) #[] #[], .func (.func 127) #[] #[]]) w := by kernel_rfl
theorem idx3 (q : BoxD) (w : World) : Sem.run Tryz.prog (Instr.index 170 (.agg #[.int .i64 q.a, .func (.func 123) #[] #[], .func (.func 124) #[] #[], .int .i64 q.c, .func (.func 125) #[] #[], .func (.func 124) #[] #[], .int .i64 q.b, .func (.func 126) #[] #[], .func (.func 127) #[] #[], .int .i64 q.d, .func (.func 128) #[] #[], .func (.func 127) #[] #[]]) (.int .i64 3)) w = .ok (.agg #[.int .i64 q.d, .func (.func 128) #[] #[], .func (.func 127) #[] #[]]) w := by kernel_rfl
/-- All that lies in memory while a stretch is cut. -/
structure PW (w : World) (q : BoxD) (ax ay bx b_y : Int) (B9 B10 : Nat) (wr : World) (s : StD) : Prop where
 sc : Blk wr w.heap.size (sciL q)
 a : Blk wr (w.heap.size + 1) [.int .i64 ax, .int .i64 ay]
 b : Blk wr (w.heap.size + 1 + 1) [.int .i64 bx, .int .i64 b_y]
 r0 : Blk wr (w.heap.size + 1 + 1 + 1) [.int .i64 0, .int .i64 0]
 r1 : Blk wr (w.heap.size + 1 + 1 + 1 + 1) [.int .i64 0, .int .i64 0]
 p : Blk wr B9 [.int .i64 s.px, .int .i64 s.py]
 q' : Blk wr B10 [.int .i64 s.qx, .int .i64 s.qy]
 n9 : w.heap.size + 1 + 1 + 1 + 1 < B9
 n10 : w.heap.size + 1 + 1 + 1 + 1 < B10
 ne : B9 ≠ B10
 bel : Bel w wr
theorem PW.step {w : World} {q : BoxD} {ax ay bx b_y : Int} {B9 B10 : Nat} {wr w' : World} {s : StD} (h : PW w q ax ay bx b_y B9 B10 wr s) (k : Bel wr w') : PW w q ax ay bx b_y B9 B10 w' s :=
 ⟨h.sc.bel k, h.a.bel k, h.b.bel k, h.r0.bel k, h.r1.bel k, h.p.bel k, h.q'.bel k, h.n9, h.n10, h.ne, bel_step h.bel k⟩
theorem PW.setP {w : World} {q : BoxD} {ax ay bx b_y : Int} {B9 B10 : Nat} {wr : World} {s : StD} (h : PW w q ax ay bx b_y B9 B10 wr s) (x y : Int) : PW w q ax ay bx b_y B9 B10 ((wr.setCell ⟨B9, 0, none⟩ (.int .i64 x)).setCell ⟨B9, 1, none⟩ (.int .i64 y)) ⟨x, y, s.qx, s.qy⟩ := by
 obtain ⟨h1, h2, h3, h4, h5, h6, h7, h8, h9, h10, h11⟩ := h
 exact ⟨(h1.far (by omega)).far (by omega), (h2.far (by omega)).far (by omega), (h3.far (by omega)).far (by omega), (h4.far (by omega)).far (by omega), (h5.far (by omega)).far (by omega), (h6.set 0 _ (by simp)).set 1 _ (by simp), (h7.far h10).far h10, h8, h9, h10, bel_set (bel_set h11 (by show w.heap.size ≤ B9; omega) _) (by show w.heap.size ≤ B9; omega) _⟩
theorem PW.setQ {w : World} {q : BoxD} {ax ay bx b_y : Int} {B9 B10 : Nat} {wr : World} {s : StD} (h : PW w q ax ay bx b_y B9 B10 wr s) (x y : Int) : PW w q ax ay bx b_y B9 B10 ((wr.setCell ⟨B10, 0, none⟩ (.int .i64 x)).setCell ⟨B10, 1, none⟩ (.int .i64 y)) ⟨s.px, s.py, x, y⟩ := by
 obtain ⟨h1, h2, h3, h4, h5, h6, h7, h8, h9, h10, h11⟩ := h
 have h10' : B10 ≠ B9 := fun e => h10 e.symm
 exact ⟨(h1.far (by omega)).far (by omega), (h2.far (by omega)).far (by omega), (h3.far (by omega)).far (by omega), (h4.far (by omega)).far (by omega), (h5.far (by omega)).far (by omega), (h6.far h10').far h10', (h7.set 0 _ (by simp)).set 1 _ (by simp), h8, h9, h10, bel_set (bel_set h11 (by show w.heap.size ≤ B10; omega) _) (by show w.heap.size ≤ B10; omega) _⟩
/-- What an edge does, by the two answers. -/
theorem stp_go {q : BoxD} {ax ay bx b_y : Int} {i : Nat} {s : StD} (hs : stpT q ax ay bx b_y i = some s) : stpT q ax ay bx b_y (i + 1) = stpE i (edgB q i) ax ay bx b_y s := by simp [stpT, hs]
theorem stp_none {i : Nat} {e ax ay bx b_y : Int} {s : StD} (hp : outB i e s.px s.py = true) (hq : outB i e s.qx s.qy = true) : stpE i e ax ay bx b_y s = none := by simp [stpE, hp, hq]
theorem stp_both {i : Nat} {e ax ay bx b_y : Int} {s : StD} (hp : outB i e s.px s.py = false) (hq : outB i e s.qx s.qy = false) : stpE i e ax ay bx b_y s = some s := by simp [stpE, hp, hq]
theorem stp_p {i : Nat} {e ax ay bx b_y : Int} {s : StD} (hp : outB i e s.px s.py = true) (hq : outB i e s.qx s.qy = false) : stpE i e ax ay bx b_y s = some ⟨crsX i e ax ay bx b_y, crsY i e ax ay bx b_y, s.qx, s.qy⟩ := by simp [stpE, hp, hq]
theorem stp_q {i : Nat} {e ax ay bx b_y : Int} {s : StD} (hp : outB i e s.px s.py = false) (hq : outB i e s.qx s.qy = true) : stpE i e ax ay bx b_y s = some ⟨s.px, s.py, crsX i e ax ay bx b_y, crsY i e ax ay bx b_y⟩ := by simp [stpE, hp, hq]
theorem stp_dead {q : BoxD} {ax ay bx b_y : Int} {i : Nat} (h : stpT q ax ay bx b_y i = none) : ∀ j, i ≤ j → stpT q ax ay bx b_y j = none := by
 intro j
 induction j with
 | zero =>
  intro hj
  obtain rfl : i = 0 := by omega
  exact h
 | succ j ih =>
  intro hj
  by_cases e : i = j + 1
  ·subst e; exact h
  ·simp [stpT, ih (by omega)]
theorem strC_none {q : BoxD} {ax ay bx b_y : Int} {i : Nat} (hi : i ≤ 4) (h : stpT q ax ay bx b_y i = none) : strC q ax ay bx b_y = none := by
 unfold strC; rw [stp_dead h 4 hi]; rfl

set_option maxRecDepth 100000 in
set_option maxHeartbeats 8000000 in
theorem part_any' (q : BoxD) (ax ay bx b_y : Int) (w : World) (pa : POk ax ay) (pb : POk bx b_y) :
  Calls Tryz.prog 98 #[sci q, pt ax ay, pt bx b_y] w fun r w' => ∃ px py qx qy ok, r = .returned (.tuple #[pt px py, pt qx qy, .bool ok]) ∧ (strC q ax ay bx b_y = if ok then some ⟨px, py, qx, qy⟩ else none) ∧ Bel w w' := by
 obtain ⟨W, HW⟩ : ∃ W, Hid (W = ((((w.alloc (.cells #[.int .i64 q.a, .int .i64 q.b, .int .i64 q.c, .int .i64 q.d, .int .i64 q.a, .func (.func 123) #[] #[], .func (.func 124) #[] #[], .int .i64 q.c, .func (.func 125) #[] #[], .func (.func 124) #[] #[], .int .i64 q.b, .func (.func 126) #[] #[], .func (.func 127) #[] #[], .int .i64 q.d, .func (.func 128) #[] #[], .func (.func 127) #[] #[]] 172)).alloc (.cells #[.int .i64 ax, .int .i64 ay] 61)).alloc (.cells #[.int .i64 bx, .int .i64 b_y] 61)).alloc (.cells #[.int .i64 0, .int .i64 0] 61)).alloc (.cells #[.int .i64 0, .int .i64 0] 61)) := ⟨_, (rfl : ((((w.alloc (.cells #[.int .i64 q.a, .int .i64 q.b, .int .i64 q.c, .int .i64 q.d, .int .i64 q.a, .func (.func 123) #[] #[], .func (.func 124) #[] #[], .int .i64 q.c, .func (.func 125) #[] #[], .func (.func 124) #[] #[], .int .i64 q.b, .func (.func 126) #[] #[], .func (.func 127) #[] #[], .int .i64 q.d, .func (.func 128) #[] #[], .func (.func 127) #[] #[]] 172)).alloc (.cells #[.int .i64 ax, .int .i64 ay] 61)).alloc (.cells #[.int .i64 bx, .int .i64 b_y] 61)).alloc (.cells #[.int .i64 0, .int .i64 0] 61)).alloc (.cells #[.int .i64 0, .int .i64 0] 61) = _)⟩
 have hsz : Hid (W.heap.size = w.heap.size + 1 + 1 + 1 + 1 + 1) := (by rw [HW.out]; simp : W.heap.size = w.heap.size + 1 + 1 + 1 + 1 + 1)
 have hBW : Bel w W := by rw [HW.out]; exact bel_alloc (bel_alloc (bel_alloc (bel_alloc (bel_alloc (Bel.refl _) _) _) _) _) _
 have X0 : Blk W w.heap.size (sciL q) := by rw [HW.out]; exact (Blk.new w (sciL q) _).bel (bel_alloc (bel_alloc (bel_alloc (bel_alloc (Bel.refl _) _) _) _) _)
 have X1 : Blk W (w.heap.size + 1) [.int .i64 ax, .int .i64 ay] := by rw [HW.out]; exact (Blk.new1 w _ [.int .i64 ax, .int .i64 ay] _).bel (bel_alloc (bel_alloc (bel_alloc (Bel.refl _) _) _) _)
 have X2 : Blk W (w.heap.size + 1 + 1) [.int .i64 bx, .int .i64 b_y] := by rw [HW.out]; exact (Blk.new2 w _ _ [.int .i64 bx, .int .i64 b_y] _).bel (bel_alloc (bel_alloc (Bel.refl _) _) _)
 have X3 : Blk W (w.heap.size + 1 + 1 + 1) [.int .i64 0, .int .i64 0] := by
  rw [HW.out]
  have := (Blk.new2 (w.alloc (.cells #[.int .i64 q.a, .int .i64 q.b, .int .i64 q.c, .int .i64 q.d, .int .i64 q.a, .func (.func 123) #[] #[], .func (.func 124) #[] #[], .int .i64 q.c, .func (.func 125) #[] #[], .func (.func 124) #[] #[], .int .i64 q.b, .func (.func 126) #[] #[], .func (.func 127) #[] #[], .int .i64 q.d, .func (.func 128) #[] #[], .func (.func 127) #[] #[]] 172)) (.cells #[.int .i64 ax, .int .i64 ay] 61) (.cells #[.int .i64 bx, .int .i64 b_y] 61) [.int .i64 0, .int .i64 0] 61).bel (bel_alloc (Bel.refl _) (.cells #[.int .i64 0, .int .i64 0] 61))
  rw [World.size_alloc] at this
  exact this
 have X4 : Blk W (w.heap.size + 1 + 1 + 1 + 1) [.int .i64 0, .int .i64 0] := by
  rw [HW.out]
  have := Blk.new2 ((w.alloc (.cells #[.int .i64 q.a, .int .i64 q.b, .int .i64 q.c, .int .i64 q.d, .int .i64 q.a, .func (.func 123) #[] #[], .func (.func 124) #[] #[], .int .i64 q.c, .func (.func 125) #[] #[], .func (.func 124) #[] #[], .int .i64 q.b, .func (.func 126) #[] #[], .func (.func 127) #[] #[], .int .i64 q.d, .func (.func 128) #[] #[], .func (.func 127) #[] #[]] 172)).alloc (.cells #[.int .i64 ax, .int .i64 ay] 61)) (.cells #[.int .i64 bx, .int .i64 b_y] 61) (.cells #[.int .i64 0, .int .i64 0] 61) [.int .i64 0, .int .i64 0] 61
  rw [World.size_alloc, World.size_alloc] at this
  exact this
 have a0 := X1.cell 0 (by simp)
 have a1 := X1.cell 1 (by simp)
 have b0 := X2.cell 0 (by simp)
 have b1 := X2.cell 1 (by simp)
 simp only [List.getElem_cons_zero, List.getElem_cons_succ] at a0 a1 b0 b1
 have g0 : Bel W W := Bel.refl _
 have hR : ∀ v, Bel W v → v.cell? ⟨w.heap.size + 1, 0, none⟩ = some (.int .i64 ax) ∧ v.cell? ⟨w.heap.size + 1, 1, none⟩ = some (.int .i64 ay) ∧ v.cell? ⟨w.heap.size + 1 + 1, 0, none⟩ = some (.int .i64 bx) ∧ v.cell? ⟨w.heap.size + 1 + 1, 1, none⟩ = some (.int .i64 b_y) :=
  fun v h => ⟨(X1.bel h).cell 0 (by simp), (X1.bel h).cell 1 (by simp), (X2.bel h).cell 0 (by simp), (X2.bel h).cell 1 (by simp)⟩
 go_enter Tryz.func98, Tryz.ntmps98
 go_upto_region 1 with fail
 rw [← HW.out]
 go_cut [9, 10] (fun v9 v10 wx => ∃ B9 B10, v9 = .pointer (some ⟨B9, 0, none⟩) ∧ v10 = .pointer (some ⟨B10, 0, none⟩) ∧ Blk wx B9 [.int .i64 ax, .int .i64 ay] ∧ Blk wx B10 [.int .i64 bx, .int .i64 b_y] ∧ w.heap.size + 1 + 1 + 1 + 1 < B9 ∧ w.heap.size + 1 + 1 + 1 + 1 < B10 ∧ B9 ≠ B10 ∧ Bel W wx)
 case first =>
  go_wp2
  go_region_held3 (fun w' => Bel W w') (repeat (first | exact g0 | refine Bel.drew ?_ | refine bel_alloc ?_ _ | refine bel_set2 ?_ ?_ _ | refine bel_set3 ?_ ?_ _ | assumption | refine bel_then (by assumption) ?_))
   (fail)
  all_goals
   go_wp2_with fail
   go_meet
   first
    | exact ⟨_, _, rfl, rfl, ((Blk.new W [.int .i64 ax, .int .i64 ay] _).bel (bel_alloc (Bel.refl _) _)).bel (Bel.drew (Bel.refl _)), (Blk.new1 W _ [.int .i64 bx, .int .i64 b_y] _).bel (Bel.drew (Bel.refl _)), by have := hsz.out; omega, by have := hsz.out; omega, by omega, Bel.drew (bel_alloc (bel_alloc (Bel.refl _) _) _)⟩
    | exact ⟨_, _, rfl, rfl, (Blk.new1 W _ [.int .i64 ax, .int .i64 ay] _).bel (Bel.drew (Bel.refl _)), ((Blk.new W [.int .i64 bx, .int .i64 b_y] _).bel (bel_alloc (Bel.refl _) _)).bel (Bel.drew (Bel.refl _)), by have := hsz.out; omega, by have := hsz.out; omega, by omega, Bel.drew (bel_alloc (bel_alloc (Bel.refl _) _) _)⟩
 case rest =>
  clear hR g0 a0 a1 b0 b1
  obtain ⟨B9, B10, rfl, rfl, X9, X10, n9, n10, ne, hb1⟩ := hcut
  have K0 : PW w q ax ay bx b_y B9 B10 wc ⟨ax, ay, bx, b_y⟩ := ⟨X0.bel hb1, X1.bel hb1, X2.bel hb1, X3.bel hb1, X4.bel hb1, X9, X10, n9, n10, ne, bel_step hBW hb1⟩
  have HK0 : Hid (PW w q ax ay bx b_y B9 B10 wc ⟨ax, ay, bx, b_y⟩) := K0
  have d0 := K0.sc.cell 4 (by simp [sciL])
  have d1 := K0.sc.cell 5 (by simp [sciL])
  have d2 := K0.sc.cell 6 (by simp [sciL])
  have d3 := K0.sc.cell 7 (by simp [sciL])
  have d4 := K0.sc.cell 8 (by simp [sciL])
  have d5 := K0.sc.cell 9 (by simp [sciL])
  have d6 := K0.sc.cell 10 (by simp [sciL])
  have d7 := K0.sc.cell 11 (by simp [sciL])
  have d8 := K0.sc.cell 12 (by simp [sciL])
  have d9 := K0.sc.cell 13 (by simp [sciL])
  have d10 := K0.sc.cell 14 (by simp [sciL])
  have d11 := K0.sc.cell 15 (by simp [sciL])
  simp only [sciL, List.getElem_cons_zero, List.getElem_cons_succ] at d0 d1 d2 d3 d4 d5 d6 d7 d8 d9 d10 d11
  clear X0 X1 X2 X3 X4 X9 X10 HW hsz K0 hb1 hBW
  go_wp2
  go_loopw [12, 13, 14, 19] (fun _ _ _ i wr => ∃ (j : Nat) (s : StD), j ≤ 4 ∧ i = .int .i64 j ∧ stpT q ax ay bx b_y j = some s ∧ PW w q ax ay bx b_y B9 B10 wr s) (fun _ _ _ i _ => 4 - (intOf i).toNat)
  case atStart => exact ⟨0, _, by decide, rfl, rfl, HK0.out⟩
  case round =>
   clear d0 d1 d2 d3 d4 d5 d6 d7 d8 d9 d10 d11 HK0
   obtain ⟨j, s, hj, rfl, hs, hK⟩ := hrel
   have Hs : Hid (stpT q ax ay bx b_y j = some s) := hs
   have hJ := stpT_btw j s hs
   clear hs
   by_cases hlt : j < 4
   ·rcases (show j = 0 ∨ j = 1 ∨ j = 2 ∨ j = 3 by omega) with hi0 | hi1 | hi2 | hi3
    ·subst hi0
     obtain ⟨P, HP⟩ : ∃ t, Hid (outB 0 q.a s.px s.py = t) := ⟨_, (rfl : outB 0 q.a s.px s.py = _)⟩
     obtain ⟨Q, HQ⟩ : ∃ t, Hid (outB 0 q.a s.qx s.qy = t) := ⟨_, (rfl : outB 0 q.a s.qx s.qy = _)⟩
     have cP : ∀ w', Calls Tryz.prog 123 #[pt s.px s.py, .int .i64 q.a] w' fun r w'' => r = .returned (.bool P) ∧ Bel w' w'' := fun w' => by rw [← HP.out]; exact liesWest_any _ _ _ _
     have cQ : ∀ w', Calls Tryz.prog 123 #[pt s.qx s.qy, .int .i64 q.a] w' fun r w'' => r = .returned (.bool Q) ∧ Bel w' w'' := fun w' => by rw [← HQ.out]; exact liesWest_any _ _ _ _
     obtain ⟨V, HV⟩ : ∃ V, Hid (V = wr.alloc (.cells #[.int .i64 q.a, .func (.func 123) #[] #[], .func (.func 124) #[] #[]] 169)) := ⟨_, (rfl : wr.alloc (.cells #[.int .i64 q.a, .func (.func 123) #[] #[], .func (.func 124) #[] #[]] 169) = _)⟩
     have hbV : Bel wr V := by rw [HV.out]; exact bel_alloc (Bel.refl _) _
     have XE : Blk V wr.heap.size [.int .i64 q.a, .func (.func 123) #[] #[], .func (.func 124) #[] #[]] := by rw [HV.out]; exact Blk.new wr [.int .i64 q.a, .func (.func 123) #[] #[], .func (.func 124) #[] #[]] _
     have K := hK.step hbV
     have hR : ∀ w', Bel V w' → w'.cell? ⟨wr.heap.size, 0, none⟩ = some (.int .i64 q.a) ∧ w'.cell? ⟨wr.heap.size, 1, none⟩ = some (.func (.func 123) #[] #[]) ∧ w'.cell? ⟨B9, 0, none⟩ = some (.int .i64 s.px) ∧ w'.cell? ⟨B9, 1, none⟩ = some (.int .i64 s.py) ∧ w'.cell? ⟨B10, 0, none⟩ = some (.int .i64 s.qx) ∧ w'.cell? ⟨B10, 1, none⟩ = some (.int .i64 s.qy) :=
      fun w' h => ⟨(XE.bel h).cell 0 (by simp), (XE.bel h).cell 1 (by simp), (K.step h).p.cell 0 (by simp), (K.step h).p.cell 1 (by simp), (K.step h).q'.cell 0 (by simp), (K.step h).q'.cell 1 (by simp)⟩
     have g0 : Bel V V := Bel.refl _
     have hidx := idx0 q
     go_wp2
     rw [← HV.out]
     clear hidx
     go_region_held3 (fun w' => Bel V w') (with_reducible (repeat (first | exact g0 | refine Bel.drew ?_ | assumption | refine bel_then (by assumption) ?_)))
      (first
       | (go_at_call 123; with_reducible refine (cP _).mono ?_; rintro r w' ⟨rfl, hbk⟩)
       | (go_at_call 123; with_reducible refine (cQ _).mono ?_; rintro r w' ⟨rfl, hbk⟩))
     have hH : Bel V w' := by assumption
     obtain ⟨w4, hw4⟩ : ∃ V, V = w' := ⟨_, rfl⟩
     subst hw4
     have K4 := K.step hH
     have HK4 : Hid (PW w q ax ay bx b_y B9 B10 w4 s) := K4
     have XE4 := XE.bel hH
     have z0 := XE4.cell 0 (by simp)
     have z2 := XE4.cell 2 (by simp)
     have z1 := K4.r0.cell 0 (by simp)
     have z3 := K4.r0.cell 1 (by simp)
     have y0 := K4.a.cell 0 (by simp)
     have y1 := K4.a.cell 1 (by simp)
     have y2 := K4.b.cell 0 (by simp)
     have y3 := K4.b.cell 1 (by simp)
     simp only [List.getElem_cons_zero, List.getElem_cons_succ] at z0 z1 z2 z3 y0 y1 y2 y3
     clear hR g0 cP cQ K XE XE4
     cases P
     ·cases Q
      ·have HS : Hid (stpT q ax ay bx b_y (0 + 1) = some s) := (stp_go Hs.out).trans (stp_both HP.out HQ.out)
       clear z0 z1 z2 z3 y0 y1 y2 y3 K4
       go_wp2
       go_roundw
       case rel => exact ⟨0 + 1, s, by omega, by go_num, HS.out, HK4.out⟩
       case measure => simp [intOf]
      ·have hx := btw_cross hJ (i := 0) (e := q.a) (by rw [HP.out, HQ.out]; decide)
       have cC := fun w' => crossUpright_any ax ay bx b_y q.a w' pa pb (hx.1 (by decide)).1 (hx.1 (by decide)).2.1 (hx.1 (by decide)).2.2
       obtain ⟨cx, Hcx⟩ : ∃ t, Hid (crsX 0 q.a ax ay bx b_y = t) := ⟨_, (rfl : crsX 0 q.a ax ay bx b_y = _)⟩
       obtain ⟨cy, Hcy⟩ : ∃ t, Hid (crsY 0 q.a ax ay bx b_y = t) := ⟨_, (rfl : crsY 0 q.a ax ay bx b_y = _)⟩
       have cC' : ∀ w', Calls Tryz.prog 124 #[pt ax ay, pt bx b_y, .int .i64 q.a] w' fun r w'' => r = .returned (pt cx cy) ∧ Bel w' w'' := fun w' => by rw [← Hcx.out, ← Hcy.out]; exact cC w'
       have HS : Hid (stpT q ax ay bx b_y (0 + 1) = some ⟨s.px, s.py, cx, cy⟩) := by
        show _ = _
        rw [stp_go Hs.out]
        have := stp_q (e := q.a) (i := 0) (ax := ax) (ay := ay) (bx := bx) (b_y := b_y) HP.out HQ.out
        rw [Hcx.out, Hcy.out] at this
        exact this
       clear cC hx
       go_wp2_with fail
       refine (cC' _).mono ?_
       rintro r w5 ⟨rfl, g5⟩
       have K5 := K4.step g5
       have x0 := K5.q'.cell 0 (by simp)
       have x1 := K5.q'.cell 1 (by simp)
       simp only [List.getElem_cons_zero, List.getElem_cons_succ] at x0 x1
       have f0 := K5.q'.free 0
       have f1 := K5.q'.free 1
       have HK : Hid _ := K5.setQ cx cy
       clear cC' K5 z0 z1 z2 z3 y0 y1 y2 y3 HK4
       go_wp2
       go_roundw
       case rel => exact ⟨0 + 1, _, by omega, by go_num, HS.out, HK.out⟩
       case measure => simp [intOf]
     ·cases Q
      ·have hx := btw_cross hJ (i := 0) (e := q.a) (by rw [HP.out, HQ.out]; decide)
       have cC := fun w' => crossUpright_any ax ay bx b_y q.a w' pa pb (hx.1 (by decide)).1 (hx.1 (by decide)).2.1 (hx.1 (by decide)).2.2
       obtain ⟨cx, Hcx⟩ : ∃ t, Hid (crsX 0 q.a ax ay bx b_y = t) := ⟨_, (rfl : crsX 0 q.a ax ay bx b_y = _)⟩
       obtain ⟨cy, Hcy⟩ : ∃ t, Hid (crsY 0 q.a ax ay bx b_y = t) := ⟨_, (rfl : crsY 0 q.a ax ay bx b_y = _)⟩
       have cC' : ∀ w', Calls Tryz.prog 124 #[pt ax ay, pt bx b_y, .int .i64 q.a] w' fun r w'' => r = .returned (pt cx cy) ∧ Bel w' w'' := fun w' => by rw [← Hcx.out, ← Hcy.out]; exact cC w'
       have HS : Hid (stpT q ax ay bx b_y (0 + 1) = some ⟨cx, cy, s.qx, s.qy⟩) := by
        show _ = _
        rw [stp_go Hs.out]
        have := stp_p (e := q.a) (i := 0) (ax := ax) (ay := ay) (bx := bx) (b_y := b_y) HP.out HQ.out
        rw [Hcx.out, Hcy.out] at this
        exact this
       clear cC hx
       go_wp2_with fail
       refine (cC' _).mono ?_
       rintro r w5 ⟨rfl, g5⟩
       have K5 := K4.step g5
       have x0 := K5.p.cell 0 (by simp)
       have x1 := K5.p.cell 1 (by simp)
       simp only [List.getElem_cons_zero, List.getElem_cons_succ] at x0 x1
       have f0 := K5.p.free 0
       have f1 := K5.p.free 1
       have HK : Hid _ := K5.setP cx cy
       clear cC' K5 z0 z1 z2 z3 y0 y1 y2 y3 HK4
       go_wp2
       go_roundw
       case rel => exact ⟨0 + 1, _, by omega, by go_num, HS.out, HK.out⟩
       case measure => simp [intOf]
      ·have hno := strC_none (by decide) ((stp_go Hs.out).trans (stp_none HP.out HQ.out))
       have f0 := K4.r0.free 0
       have f1 := K4.r0.free 1
       have f2 := K4.r1.free 0
       have f3 := K4.r1.free 1
       have x0 := K4.r1.cell 0 (by simp)
       have x1 := K4.r1.cell 1 (by simp)
       simp only [List.getElem_cons_zero, List.getElem_cons_succ] at x0 x1
       obtain ⟨U, HU⟩ : ∃ U, Hid (U = (((w4.setCell ⟨w.heap.size + 1 + 1 + 1, 0, none⟩ (.int .i64 0)).setCell ⟨w.heap.size + 1 + 1 + 1, 1, none⟩ (.int .i64 0)).setCell ⟨w.heap.size + 1 + 1 + 1 + 1, 0, none⟩ (.int .i64 0)).setCell ⟨w.heap.size + 1 + 1 + 1 + 1, 1, none⟩ (.int .i64 0)) := ⟨_, (rfl : (((w4.setCell ⟨w.heap.size + 1 + 1 + 1, 0, none⟩ (.int .i64 0)).setCell ⟨w.heap.size + 1 + 1 + 1, 1, none⟩ (.int .i64 0)).setCell ⟨w.heap.size + 1 + 1 + 1 + 1, 0, none⟩ (.int .i64 0)).setCell ⟨w.heap.size + 1 + 1 + 1 + 1, 1, none⟩ (.int .i64 0) = _)⟩
       have Y0 : Blk U (w.heap.size + 1 + 1 + 1) [.int .i64 0, .int .i64 0] := by rw [HU.out]; exact (((K4.r0.set 0 _ (by simp)).set 1 _ (by simp)).far (by omega)).far (by omega)
       have Y1 : Blk U (w.heap.size + 1 + 1 + 1 + 1) [.int .i64 0, .int .i64 0] := by rw [HU.out]; exact (((K4.r1.far (by omega)).far (by omega)).set 0 _ (by simp)).set 1 _ (by simp)
       have hBU : Bel w U := by rw [HU.out]; exact bel_set (bel_set (bel_set (bel_set K4.bel (by show w.heap.size ≤ w.heap.size + 1 + 1 + 1; omega) _) (by show w.heap.size ≤ w.heap.size + 1 + 1 + 1; omega) _) (by show w.heap.size ≤ w.heap.size + 1 + 1 + 1 + 1; omega) _) (by show w.heap.size ≤ w.heap.size + 1 + 1 + 1 + 1; omega) _
       have Hno : Hid (strC q ax ay bx b_y = none) := hno
       clear K4 hno
       go_wp2
       rw [← HU.out]
       exact bodyPost_ret (v := .tuple #[pt 0 0, pt 0 0, .bool false]) (by simp [results, Tryz.results98, go_sem, Y0.cell 0 (by simp), Y0.cell 1 (by simp), Y1.cell 0 (by simp), Y1.cell 1 (by simp)]) rfl ⟨0, 0, 0, 0, false, rfl, Hno.out, hBU⟩
    ·subst hi1
     obtain ⟨P, HP⟩ : ∃ t, Hid (outB 1 q.c s.px s.py = t) := ⟨_, (rfl : outB 1 q.c s.px s.py = _)⟩
     obtain ⟨Q, HQ⟩ : ∃ t, Hid (outB 1 q.c s.qx s.qy = t) := ⟨_, (rfl : outB 1 q.c s.qx s.qy = _)⟩
     have cP : ∀ w', Calls Tryz.prog 125 #[pt s.px s.py, .int .i64 q.c] w' fun r w'' => r = .returned (.bool P) ∧ Bel w' w'' := fun w' => by rw [← HP.out]; exact liesEast_any _ _ _ _
     have cQ : ∀ w', Calls Tryz.prog 125 #[pt s.qx s.qy, .int .i64 q.c] w' fun r w'' => r = .returned (.bool Q) ∧ Bel w' w'' := fun w' => by rw [← HQ.out]; exact liesEast_any _ _ _ _
     obtain ⟨V, HV⟩ : ∃ V, Hid (V = wr.alloc (.cells #[.int .i64 q.c, .func (.func 125) #[] #[], .func (.func 124) #[] #[]] 169)) := ⟨_, (rfl : wr.alloc (.cells #[.int .i64 q.c, .func (.func 125) #[] #[], .func (.func 124) #[] #[]] 169) = _)⟩
     have hbV : Bel wr V := by rw [HV.out]; exact bel_alloc (Bel.refl _) _
     have XE : Blk V wr.heap.size [.int .i64 q.c, .func (.func 125) #[] #[], .func (.func 124) #[] #[]] := by rw [HV.out]; exact Blk.new wr [.int .i64 q.c, .func (.func 125) #[] #[], .func (.func 124) #[] #[]] _
     have K := hK.step hbV
     have hR : ∀ w', Bel V w' → w'.cell? ⟨wr.heap.size, 0, none⟩ = some (.int .i64 q.c) ∧ w'.cell? ⟨wr.heap.size, 1, none⟩ = some (.func (.func 125) #[] #[]) ∧ w'.cell? ⟨B9, 0, none⟩ = some (.int .i64 s.px) ∧ w'.cell? ⟨B9, 1, none⟩ = some (.int .i64 s.py) ∧ w'.cell? ⟨B10, 0, none⟩ = some (.int .i64 s.qx) ∧ w'.cell? ⟨B10, 1, none⟩ = some (.int .i64 s.qy) :=
      fun w' h => ⟨(XE.bel h).cell 0 (by simp), (XE.bel h).cell 1 (by simp), (K.step h).p.cell 0 (by simp), (K.step h).p.cell 1 (by simp), (K.step h).q'.cell 0 (by simp), (K.step h).q'.cell 1 (by simp)⟩
     have g0 : Bel V V := Bel.refl _
     have hidx := idx1 q
     go_wp2
     rw [← HV.out]
     clear hidx
     go_region_held3 (fun w' => Bel V w') (with_reducible (repeat (first | exact g0 | refine Bel.drew ?_ | assumption | refine bel_then (by assumption) ?_)))
      (first
       | (go_at_call 125; with_reducible refine (cP _).mono ?_; rintro r w' ⟨rfl, hbk⟩)
       | (go_at_call 125; with_reducible refine (cQ _).mono ?_; rintro r w' ⟨rfl, hbk⟩))
     have hH : Bel V w' := by assumption
     obtain ⟨w4, hw4⟩ : ∃ V, V = w' := ⟨_, rfl⟩
     subst hw4
     have K4 := K.step hH
     have HK4 : Hid (PW w q ax ay bx b_y B9 B10 w4 s) := K4
     have XE4 := XE.bel hH
     have z0 := XE4.cell 0 (by simp)
     have z2 := XE4.cell 2 (by simp)
     have z1 := K4.r0.cell 0 (by simp)
     have z3 := K4.r0.cell 1 (by simp)
     have y0 := K4.a.cell 0 (by simp)
     have y1 := K4.a.cell 1 (by simp)
     have y2 := K4.b.cell 0 (by simp)
     have y3 := K4.b.cell 1 (by simp)
     simp only [List.getElem_cons_zero, List.getElem_cons_succ] at z0 z1 z2 z3 y0 y1 y2 y3
     clear hR g0 cP cQ K XE XE4
     cases P
     ·cases Q
      ·have HS : Hid (stpT q ax ay bx b_y (1 + 1) = some s) := (stp_go Hs.out).trans (stp_both HP.out HQ.out)
       clear z0 z1 z2 z3 y0 y1 y2 y3 K4
       go_wp2
       go_roundw
       case rel => exact ⟨1 + 1, s, by omega, by go_num, HS.out, HK4.out⟩
       case measure => simp [intOf]
      ·have hx := btw_cross hJ (i := 1) (e := q.c) (by rw [HP.out, HQ.out]; decide)
       have cC := fun w' => crossUpright_any ax ay bx b_y q.c w' pa pb (hx.1 (by decide)).1 (hx.1 (by decide)).2.1 (hx.1 (by decide)).2.2
       obtain ⟨cx, Hcx⟩ : ∃ t, Hid (crsX 1 q.c ax ay bx b_y = t) := ⟨_, (rfl : crsX 1 q.c ax ay bx b_y = _)⟩
       obtain ⟨cy, Hcy⟩ : ∃ t, Hid (crsY 1 q.c ax ay bx b_y = t) := ⟨_, (rfl : crsY 1 q.c ax ay bx b_y = _)⟩
       have cC' : ∀ w', Calls Tryz.prog 124 #[pt ax ay, pt bx b_y, .int .i64 q.c] w' fun r w'' => r = .returned (pt cx cy) ∧ Bel w' w'' := fun w' => by rw [← Hcx.out, ← Hcy.out]; exact cC w'
       have HS : Hid (stpT q ax ay bx b_y (1 + 1) = some ⟨s.px, s.py, cx, cy⟩) := by
        show _ = _
        rw [stp_go Hs.out]
        have := stp_q (e := q.c) (i := 1) (ax := ax) (ay := ay) (bx := bx) (b_y := b_y) HP.out HQ.out
        rw [Hcx.out, Hcy.out] at this
        exact this
       clear cC hx
       go_wp2_with fail
       refine (cC' _).mono ?_
       rintro r w5 ⟨rfl, g5⟩
       have K5 := K4.step g5
       have x0 := K5.q'.cell 0 (by simp)
       have x1 := K5.q'.cell 1 (by simp)
       simp only [List.getElem_cons_zero, List.getElem_cons_succ] at x0 x1
       have f0 := K5.q'.free 0
       have f1 := K5.q'.free 1
       have HK : Hid _ := K5.setQ cx cy
       clear cC' K5 z0 z1 z2 z3 y0 y1 y2 y3 HK4
       go_wp2
       go_roundw
       case rel => exact ⟨1 + 1, _, by omega, by go_num, HS.out, HK.out⟩
       case measure => simp [intOf]
     ·cases Q
      ·have hx := btw_cross hJ (i := 1) (e := q.c) (by rw [HP.out, HQ.out]; decide)
       have cC := fun w' => crossUpright_any ax ay bx b_y q.c w' pa pb (hx.1 (by decide)).1 (hx.1 (by decide)).2.1 (hx.1 (by decide)).2.2
       obtain ⟨cx, Hcx⟩ : ∃ t, Hid (crsX 1 q.c ax ay bx b_y = t) := ⟨_, (rfl : crsX 1 q.c ax ay bx b_y = _)⟩
       obtain ⟨cy, Hcy⟩ : ∃ t, Hid (crsY 1 q.c ax ay bx b_y = t) := ⟨_, (rfl : crsY 1 q.c ax ay bx b_y = _)⟩
       have cC' : ∀ w', Calls Tryz.prog 124 #[pt ax ay, pt bx b_y, .int .i64 q.c] w' fun r w'' => r = .returned (pt cx cy) ∧ Bel w' w'' := fun w' => by rw [← Hcx.out, ← Hcy.out]; exact cC w'
       have HS : Hid (stpT q ax ay bx b_y (1 + 1) = some ⟨cx, cy, s.qx, s.qy⟩) := by
        show _ = _
        rw [stp_go Hs.out]
        have := stp_p (e := q.c) (i := 1) (ax := ax) (ay := ay) (bx := bx) (b_y := b_y) HP.out HQ.out
        rw [Hcx.out, Hcy.out] at this
        exact this
       clear cC hx
       go_wp2_with fail
       refine (cC' _).mono ?_
       rintro r w5 ⟨rfl, g5⟩
       have K5 := K4.step g5
       have x0 := K5.p.cell 0 (by simp)
       have x1 := K5.p.cell 1 (by simp)
       simp only [List.getElem_cons_zero, List.getElem_cons_succ] at x0 x1
       have f0 := K5.p.free 0
       have f1 := K5.p.free 1
       have HK : Hid _ := K5.setP cx cy
       clear cC' K5 z0 z1 z2 z3 y0 y1 y2 y3 HK4
       go_wp2
       go_roundw
       case rel => exact ⟨1 + 1, _, by omega, by go_num, HS.out, HK.out⟩
       case measure => simp [intOf]
      ·have hno := strC_none (by decide) ((stp_go Hs.out).trans (stp_none HP.out HQ.out))
       have f0 := K4.r0.free 0
       have f1 := K4.r0.free 1
       have f2 := K4.r1.free 0
       have f3 := K4.r1.free 1
       have x0 := K4.r1.cell 0 (by simp)
       have x1 := K4.r1.cell 1 (by simp)
       simp only [List.getElem_cons_zero, List.getElem_cons_succ] at x0 x1
       obtain ⟨U, HU⟩ : ∃ U, Hid (U = (((w4.setCell ⟨w.heap.size + 1 + 1 + 1, 0, none⟩ (.int .i64 0)).setCell ⟨w.heap.size + 1 + 1 + 1, 1, none⟩ (.int .i64 0)).setCell ⟨w.heap.size + 1 + 1 + 1 + 1, 0, none⟩ (.int .i64 0)).setCell ⟨w.heap.size + 1 + 1 + 1 + 1, 1, none⟩ (.int .i64 0)) := ⟨_, (rfl : (((w4.setCell ⟨w.heap.size + 1 + 1 + 1, 0, none⟩ (.int .i64 0)).setCell ⟨w.heap.size + 1 + 1 + 1, 1, none⟩ (.int .i64 0)).setCell ⟨w.heap.size + 1 + 1 + 1 + 1, 0, none⟩ (.int .i64 0)).setCell ⟨w.heap.size + 1 + 1 + 1 + 1, 1, none⟩ (.int .i64 0) = _)⟩
       have Y0 : Blk U (w.heap.size + 1 + 1 + 1) [.int .i64 0, .int .i64 0] := by rw [HU.out]; exact (((K4.r0.set 0 _ (by simp)).set 1 _ (by simp)).far (by omega)).far (by omega)
       have Y1 : Blk U (w.heap.size + 1 + 1 + 1 + 1) [.int .i64 0, .int .i64 0] := by rw [HU.out]; exact (((K4.r1.far (by omega)).far (by omega)).set 0 _ (by simp)).set 1 _ (by simp)
       have hBU : Bel w U := by rw [HU.out]; exact bel_set (bel_set (bel_set (bel_set K4.bel (by show w.heap.size ≤ w.heap.size + 1 + 1 + 1; omega) _) (by show w.heap.size ≤ w.heap.size + 1 + 1 + 1; omega) _) (by show w.heap.size ≤ w.heap.size + 1 + 1 + 1 + 1; omega) _) (by show w.heap.size ≤ w.heap.size + 1 + 1 + 1 + 1; omega) _
       have Hno : Hid (strC q ax ay bx b_y = none) := hno
       clear K4 hno
       go_wp2
       rw [← HU.out]
       exact bodyPost_ret (v := .tuple #[pt 0 0, pt 0 0, .bool false]) (by simp [results, Tryz.results98, go_sem, Y0.cell 0 (by simp), Y0.cell 1 (by simp), Y1.cell 0 (by simp), Y1.cell 1 (by simp)]) rfl ⟨0, 0, 0, 0, false, rfl, Hno.out, hBU⟩
    ·subst hi2
     obtain ⟨P, HP⟩ : ∃ t, Hid (outB 2 q.b s.px s.py = t) := ⟨_, (rfl : outB 2 q.b s.px s.py = _)⟩
     obtain ⟨Q, HQ⟩ : ∃ t, Hid (outB 2 q.b s.qx s.qy = t) := ⟨_, (rfl : outB 2 q.b s.qx s.qy = _)⟩
     have cP : ∀ w', Calls Tryz.prog 126 #[pt s.px s.py, .int .i64 q.b] w' fun r w'' => r = .returned (.bool P) ∧ Bel w' w'' := fun w' => by rw [← HP.out]; exact liesSouth_any _ _ _ _
     have cQ : ∀ w', Calls Tryz.prog 126 #[pt s.qx s.qy, .int .i64 q.b] w' fun r w'' => r = .returned (.bool Q) ∧ Bel w' w'' := fun w' => by rw [← HQ.out]; exact liesSouth_any _ _ _ _
     obtain ⟨V, HV⟩ : ∃ V, Hid (V = wr.alloc (.cells #[.int .i64 q.b, .func (.func 126) #[] #[], .func (.func 127) #[] #[]] 169)) := ⟨_, (rfl : wr.alloc (.cells #[.int .i64 q.b, .func (.func 126) #[] #[], .func (.func 127) #[] #[]] 169) = _)⟩
     have hbV : Bel wr V := by rw [HV.out]; exact bel_alloc (Bel.refl _) _
     have XE : Blk V wr.heap.size [.int .i64 q.b, .func (.func 126) #[] #[], .func (.func 127) #[] #[]] := by rw [HV.out]; exact Blk.new wr [.int .i64 q.b, .func (.func 126) #[] #[], .func (.func 127) #[] #[]] _
     have K := hK.step hbV
     have hR : ∀ w', Bel V w' → w'.cell? ⟨wr.heap.size, 0, none⟩ = some (.int .i64 q.b) ∧ w'.cell? ⟨wr.heap.size, 1, none⟩ = some (.func (.func 126) #[] #[]) ∧ w'.cell? ⟨B9, 0, none⟩ = some (.int .i64 s.px) ∧ w'.cell? ⟨B9, 1, none⟩ = some (.int .i64 s.py) ∧ w'.cell? ⟨B10, 0, none⟩ = some (.int .i64 s.qx) ∧ w'.cell? ⟨B10, 1, none⟩ = some (.int .i64 s.qy) :=
      fun w' h => ⟨(XE.bel h).cell 0 (by simp), (XE.bel h).cell 1 (by simp), (K.step h).p.cell 0 (by simp), (K.step h).p.cell 1 (by simp), (K.step h).q'.cell 0 (by simp), (K.step h).q'.cell 1 (by simp)⟩
     have g0 : Bel V V := Bel.refl _
     have hidx := idx2 q
     go_wp2
     rw [← HV.out]
     clear hidx
     go_region_held3 (fun w' => Bel V w') (with_reducible (repeat (first | exact g0 | refine Bel.drew ?_ | assumption | refine bel_then (by assumption) ?_)))
      (first
       | (go_at_call 126; with_reducible refine (cP _).mono ?_; rintro r w' ⟨rfl, hbk⟩)
       | (go_at_call 126; with_reducible refine (cQ _).mono ?_; rintro r w' ⟨rfl, hbk⟩))
     have hH : Bel V w' := by assumption
     obtain ⟨w4, hw4⟩ : ∃ V, V = w' := ⟨_, rfl⟩
     subst hw4
     have K4 := K.step hH
     have HK4 : Hid (PW w q ax ay bx b_y B9 B10 w4 s) := K4
     have XE4 := XE.bel hH
     have z0 := XE4.cell 0 (by simp)
     have z2 := XE4.cell 2 (by simp)
     have z1 := K4.r0.cell 0 (by simp)
     have z3 := K4.r0.cell 1 (by simp)
     have y0 := K4.a.cell 0 (by simp)
     have y1 := K4.a.cell 1 (by simp)
     have y2 := K4.b.cell 0 (by simp)
     have y3 := K4.b.cell 1 (by simp)
     simp only [List.getElem_cons_zero, List.getElem_cons_succ] at z0 z1 z2 z3 y0 y1 y2 y3
     clear hR g0 cP cQ K XE XE4
     cases P
     ·cases Q
      ·have HS : Hid (stpT q ax ay bx b_y (2 + 1) = some s) := (stp_go Hs.out).trans (stp_both HP.out HQ.out)
       clear z0 z1 z2 z3 y0 y1 y2 y3 K4
       go_wp2
       go_roundw
       case rel => exact ⟨2 + 1, s, by omega, by go_num, HS.out, HK4.out⟩
       case measure => simp [intOf]
      ·have hx := btw_cross hJ (i := 2) (e := q.b) (by rw [HP.out, HQ.out]; decide)
       have cC := fun w' => crossLevel_any ax ay bx b_y q.b w' pa pb (hx.2 (by decide)).1 (hx.2 (by decide)).2.1 (hx.2 (by decide)).2.2
       obtain ⟨cx, Hcx⟩ : ∃ t, Hid (crsX 2 q.b ax ay bx b_y = t) := ⟨_, (rfl : crsX 2 q.b ax ay bx b_y = _)⟩
       obtain ⟨cy, Hcy⟩ : ∃ t, Hid (crsY 2 q.b ax ay bx b_y = t) := ⟨_, (rfl : crsY 2 q.b ax ay bx b_y = _)⟩
       have cC' : ∀ w', Calls Tryz.prog 127 #[pt ax ay, pt bx b_y, .int .i64 q.b] w' fun r w'' => r = .returned (pt cx cy) ∧ Bel w' w'' := fun w' => by rw [← Hcx.out, ← Hcy.out]; exact cC w'
       have HS : Hid (stpT q ax ay bx b_y (2 + 1) = some ⟨s.px, s.py, cx, cy⟩) := by
        show _ = _
        rw [stp_go Hs.out]
        have := stp_q (e := q.b) (i := 2) (ax := ax) (ay := ay) (bx := bx) (b_y := b_y) HP.out HQ.out
        rw [Hcx.out, Hcy.out] at this
        exact this
       clear cC hx
       go_wp2_with fail
       refine (cC' _).mono ?_
       rintro r w5 ⟨rfl, g5⟩
       have K5 := K4.step g5
       have x0 := K5.q'.cell 0 (by simp)
       have x1 := K5.q'.cell 1 (by simp)
       simp only [List.getElem_cons_zero, List.getElem_cons_succ] at x0 x1
       have f0 := K5.q'.free 0
       have f1 := K5.q'.free 1
       have HK : Hid _ := K5.setQ cx cy
       clear cC' K5 z0 z1 z2 z3 y0 y1 y2 y3 HK4
       go_wp2
       go_roundw
       case rel => exact ⟨2 + 1, _, by omega, by go_num, HS.out, HK.out⟩
       case measure => simp [intOf]
     ·cases Q
      ·have hx := btw_cross hJ (i := 2) (e := q.b) (by rw [HP.out, HQ.out]; decide)
       have cC := fun w' => crossLevel_any ax ay bx b_y q.b w' pa pb (hx.2 (by decide)).1 (hx.2 (by decide)).2.1 (hx.2 (by decide)).2.2
       obtain ⟨cx, Hcx⟩ : ∃ t, Hid (crsX 2 q.b ax ay bx b_y = t) := ⟨_, (rfl : crsX 2 q.b ax ay bx b_y = _)⟩
       obtain ⟨cy, Hcy⟩ : ∃ t, Hid (crsY 2 q.b ax ay bx b_y = t) := ⟨_, (rfl : crsY 2 q.b ax ay bx b_y = _)⟩
       have cC' : ∀ w', Calls Tryz.prog 127 #[pt ax ay, pt bx b_y, .int .i64 q.b] w' fun r w'' => r = .returned (pt cx cy) ∧ Bel w' w'' := fun w' => by rw [← Hcx.out, ← Hcy.out]; exact cC w'
       have HS : Hid (stpT q ax ay bx b_y (2 + 1) = some ⟨cx, cy, s.qx, s.qy⟩) := by
        show _ = _
        rw [stp_go Hs.out]
        have := stp_p (e := q.b) (i := 2) (ax := ax) (ay := ay) (bx := bx) (b_y := b_y) HP.out HQ.out
        rw [Hcx.out, Hcy.out] at this
        exact this
       clear cC hx
       go_wp2_with fail
       refine (cC' _).mono ?_
       rintro r w5 ⟨rfl, g5⟩
       have K5 := K4.step g5
       have x0 := K5.p.cell 0 (by simp)
       have x1 := K5.p.cell 1 (by simp)
       simp only [List.getElem_cons_zero, List.getElem_cons_succ] at x0 x1
       have f0 := K5.p.free 0
       have f1 := K5.p.free 1
       have HK : Hid _ := K5.setP cx cy
       clear cC' K5 z0 z1 z2 z3 y0 y1 y2 y3 HK4
       go_wp2
       go_roundw
       case rel => exact ⟨2 + 1, _, by omega, by go_num, HS.out, HK.out⟩
       case measure => simp [intOf]
      ·have hno := strC_none (by decide) ((stp_go Hs.out).trans (stp_none HP.out HQ.out))
       have f0 := K4.r0.free 0
       have f1 := K4.r0.free 1
       have f2 := K4.r1.free 0
       have f3 := K4.r1.free 1
       have x0 := K4.r1.cell 0 (by simp)
       have x1 := K4.r1.cell 1 (by simp)
       simp only [List.getElem_cons_zero, List.getElem_cons_succ] at x0 x1
       obtain ⟨U, HU⟩ : ∃ U, Hid (U = (((w4.setCell ⟨w.heap.size + 1 + 1 + 1, 0, none⟩ (.int .i64 0)).setCell ⟨w.heap.size + 1 + 1 + 1, 1, none⟩ (.int .i64 0)).setCell ⟨w.heap.size + 1 + 1 + 1 + 1, 0, none⟩ (.int .i64 0)).setCell ⟨w.heap.size + 1 + 1 + 1 + 1, 1, none⟩ (.int .i64 0)) := ⟨_, (rfl : (((w4.setCell ⟨w.heap.size + 1 + 1 + 1, 0, none⟩ (.int .i64 0)).setCell ⟨w.heap.size + 1 + 1 + 1, 1, none⟩ (.int .i64 0)).setCell ⟨w.heap.size + 1 + 1 + 1 + 1, 0, none⟩ (.int .i64 0)).setCell ⟨w.heap.size + 1 + 1 + 1 + 1, 1, none⟩ (.int .i64 0) = _)⟩
       have Y0 : Blk U (w.heap.size + 1 + 1 + 1) [.int .i64 0, .int .i64 0] := by rw [HU.out]; exact (((K4.r0.set 0 _ (by simp)).set 1 _ (by simp)).far (by omega)).far (by omega)
       have Y1 : Blk U (w.heap.size + 1 + 1 + 1 + 1) [.int .i64 0, .int .i64 0] := by rw [HU.out]; exact (((K4.r1.far (by omega)).far (by omega)).set 0 _ (by simp)).set 1 _ (by simp)
       have hBU : Bel w U := by rw [HU.out]; exact bel_set (bel_set (bel_set (bel_set K4.bel (by show w.heap.size ≤ w.heap.size + 1 + 1 + 1; omega) _) (by show w.heap.size ≤ w.heap.size + 1 + 1 + 1; omega) _) (by show w.heap.size ≤ w.heap.size + 1 + 1 + 1 + 1; omega) _) (by show w.heap.size ≤ w.heap.size + 1 + 1 + 1 + 1; omega) _
       have Hno : Hid (strC q ax ay bx b_y = none) := hno
       clear K4 hno
       go_wp2
       rw [← HU.out]
       exact bodyPost_ret (v := .tuple #[pt 0 0, pt 0 0, .bool false]) (by simp [results, Tryz.results98, go_sem, Y0.cell 0 (by simp), Y0.cell 1 (by simp), Y1.cell 0 (by simp), Y1.cell 1 (by simp)]) rfl ⟨0, 0, 0, 0, false, rfl, Hno.out, hBU⟩
    ·subst hi3
     obtain ⟨P, HP⟩ : ∃ t, Hid (outB 3 q.d s.px s.py = t) := ⟨_, (rfl : outB 3 q.d s.px s.py = _)⟩
     obtain ⟨Q, HQ⟩ : ∃ t, Hid (outB 3 q.d s.qx s.qy = t) := ⟨_, (rfl : outB 3 q.d s.qx s.qy = _)⟩
     have cP : ∀ w', Calls Tryz.prog 128 #[pt s.px s.py, .int .i64 q.d] w' fun r w'' => r = .returned (.bool P) ∧ Bel w' w'' := fun w' => by rw [← HP.out]; exact liesNorth_any _ _ _ _
     have cQ : ∀ w', Calls Tryz.prog 128 #[pt s.qx s.qy, .int .i64 q.d] w' fun r w'' => r = .returned (.bool Q) ∧ Bel w' w'' := fun w' => by rw [← HQ.out]; exact liesNorth_any _ _ _ _
     obtain ⟨V, HV⟩ : ∃ V, Hid (V = wr.alloc (.cells #[.int .i64 q.d, .func (.func 128) #[] #[], .func (.func 127) #[] #[]] 169)) := ⟨_, (rfl : wr.alloc (.cells #[.int .i64 q.d, .func (.func 128) #[] #[], .func (.func 127) #[] #[]] 169) = _)⟩
     have hbV : Bel wr V := by rw [HV.out]; exact bel_alloc (Bel.refl _) _
     have XE : Blk V wr.heap.size [.int .i64 q.d, .func (.func 128) #[] #[], .func (.func 127) #[] #[]] := by rw [HV.out]; exact Blk.new wr [.int .i64 q.d, .func (.func 128) #[] #[], .func (.func 127) #[] #[]] _
     have K := hK.step hbV
     have hR : ∀ w', Bel V w' → w'.cell? ⟨wr.heap.size, 0, none⟩ = some (.int .i64 q.d) ∧ w'.cell? ⟨wr.heap.size, 1, none⟩ = some (.func (.func 128) #[] #[]) ∧ w'.cell? ⟨B9, 0, none⟩ = some (.int .i64 s.px) ∧ w'.cell? ⟨B9, 1, none⟩ = some (.int .i64 s.py) ∧ w'.cell? ⟨B10, 0, none⟩ = some (.int .i64 s.qx) ∧ w'.cell? ⟨B10, 1, none⟩ = some (.int .i64 s.qy) :=
      fun w' h => ⟨(XE.bel h).cell 0 (by simp), (XE.bel h).cell 1 (by simp), (K.step h).p.cell 0 (by simp), (K.step h).p.cell 1 (by simp), (K.step h).q'.cell 0 (by simp), (K.step h).q'.cell 1 (by simp)⟩
     have g0 : Bel V V := Bel.refl _
     have hidx := idx3 q
     go_wp2
     rw [← HV.out]
     clear hidx
     go_region_held3 (fun w' => Bel V w') (with_reducible (repeat (first | exact g0 | refine Bel.drew ?_ | assumption | refine bel_then (by assumption) ?_)))
      (first
       | (go_at_call 128; with_reducible refine (cP _).mono ?_; rintro r w' ⟨rfl, hbk⟩)
       | (go_at_call 128; with_reducible refine (cQ _).mono ?_; rintro r w' ⟨rfl, hbk⟩))
     have hH : Bel V w' := by assumption
     obtain ⟨w4, hw4⟩ : ∃ V, V = w' := ⟨_, rfl⟩
     subst hw4
     have K4 := K.step hH
     have HK4 : Hid (PW w q ax ay bx b_y B9 B10 w4 s) := K4
     have XE4 := XE.bel hH
     have z0 := XE4.cell 0 (by simp)
     have z2 := XE4.cell 2 (by simp)
     have z1 := K4.r0.cell 0 (by simp)
     have z3 := K4.r0.cell 1 (by simp)
     have y0 := K4.a.cell 0 (by simp)
     have y1 := K4.a.cell 1 (by simp)
     have y2 := K4.b.cell 0 (by simp)
     have y3 := K4.b.cell 1 (by simp)
     simp only [List.getElem_cons_zero, List.getElem_cons_succ] at z0 z1 z2 z3 y0 y1 y2 y3
     clear hR g0 cP cQ K XE XE4
     cases P
     ·cases Q
      ·have HS : Hid (stpT q ax ay bx b_y (3 + 1) = some s) := (stp_go Hs.out).trans (stp_both HP.out HQ.out)
       clear z0 z1 z2 z3 y0 y1 y2 y3 K4
       go_wp2
       go_roundw
       case rel => exact ⟨3 + 1, s, by omega, by go_num, HS.out, HK4.out⟩
       case measure => simp [intOf]
      ·have hx := btw_cross hJ (i := 3) (e := q.d) (by rw [HP.out, HQ.out]; decide)
       have cC := fun w' => crossLevel_any ax ay bx b_y q.d w' pa pb (hx.2 (by decide)).1 (hx.2 (by decide)).2.1 (hx.2 (by decide)).2.2
       obtain ⟨cx, Hcx⟩ : ∃ t, Hid (crsX 3 q.d ax ay bx b_y = t) := ⟨_, (rfl : crsX 3 q.d ax ay bx b_y = _)⟩
       obtain ⟨cy, Hcy⟩ : ∃ t, Hid (crsY 3 q.d ax ay bx b_y = t) := ⟨_, (rfl : crsY 3 q.d ax ay bx b_y = _)⟩
       have cC' : ∀ w', Calls Tryz.prog 127 #[pt ax ay, pt bx b_y, .int .i64 q.d] w' fun r w'' => r = .returned (pt cx cy) ∧ Bel w' w'' := fun w' => by rw [← Hcx.out, ← Hcy.out]; exact cC w'
       have HS : Hid (stpT q ax ay bx b_y (3 + 1) = some ⟨s.px, s.py, cx, cy⟩) := by
        show _ = _
        rw [stp_go Hs.out]
        have := stp_q (e := q.d) (i := 3) (ax := ax) (ay := ay) (bx := bx) (b_y := b_y) HP.out HQ.out
        rw [Hcx.out, Hcy.out] at this
        exact this
       clear cC hx
       go_wp2_with fail
       refine (cC' _).mono ?_
       rintro r w5 ⟨rfl, g5⟩
       have K5 := K4.step g5
       have x0 := K5.q'.cell 0 (by simp)
       have x1 := K5.q'.cell 1 (by simp)
       simp only [List.getElem_cons_zero, List.getElem_cons_succ] at x0 x1
       have f0 := K5.q'.free 0
       have f1 := K5.q'.free 1
       have HK : Hid _ := K5.setQ cx cy
       clear cC' K5 z0 z1 z2 z3 y0 y1 y2 y3 HK4
       go_wp2
       go_roundw
       case rel => exact ⟨3 + 1, _, by omega, by go_num, HS.out, HK.out⟩
       case measure => simp [intOf]
     ·cases Q
      ·have hx := btw_cross hJ (i := 3) (e := q.d) (by rw [HP.out, HQ.out]; decide)
       have cC := fun w' => crossLevel_any ax ay bx b_y q.d w' pa pb (hx.2 (by decide)).1 (hx.2 (by decide)).2.1 (hx.2 (by decide)).2.2
       obtain ⟨cx, Hcx⟩ : ∃ t, Hid (crsX 3 q.d ax ay bx b_y = t) := ⟨_, (rfl : crsX 3 q.d ax ay bx b_y = _)⟩
       obtain ⟨cy, Hcy⟩ : ∃ t, Hid (crsY 3 q.d ax ay bx b_y = t) := ⟨_, (rfl : crsY 3 q.d ax ay bx b_y = _)⟩
       have cC' : ∀ w', Calls Tryz.prog 127 #[pt ax ay, pt bx b_y, .int .i64 q.d] w' fun r w'' => r = .returned (pt cx cy) ∧ Bel w' w'' := fun w' => by rw [← Hcx.out, ← Hcy.out]; exact cC w'
       have HS : Hid (stpT q ax ay bx b_y (3 + 1) = some ⟨cx, cy, s.qx, s.qy⟩) := by
        show _ = _
        rw [stp_go Hs.out]
        have := stp_p (e := q.d) (i := 3) (ax := ax) (ay := ay) (bx := bx) (b_y := b_y) HP.out HQ.out
        rw [Hcx.out, Hcy.out] at this
        exact this
       clear cC hx
       go_wp2_with fail
       refine (cC' _).mono ?_
       rintro r w5 ⟨rfl, g5⟩
       have K5 := K4.step g5
       have x0 := K5.p.cell 0 (by simp)
       have x1 := K5.p.cell 1 (by simp)
       simp only [List.getElem_cons_zero, List.getElem_cons_succ] at x0 x1
       have f0 := K5.p.free 0
       have f1 := K5.p.free 1
       have HK : Hid _ := K5.setP cx cy
       clear cC' K5 z0 z1 z2 z3 y0 y1 y2 y3 HK4
       go_wp2
       go_roundw
       case rel => exact ⟨3 + 1, _, by omega, by go_num, HS.out, HK.out⟩
       case measure => simp [intOf]
      ·have hno := strC_none (by decide) ((stp_go Hs.out).trans (stp_none HP.out HQ.out))
       have f0 := K4.r0.free 0
       have f1 := K4.r0.free 1
       have f2 := K4.r1.free 0
       have f3 := K4.r1.free 1
       have x0 := K4.r1.cell 0 (by simp)
       have x1 := K4.r1.cell 1 (by simp)
       simp only [List.getElem_cons_zero, List.getElem_cons_succ] at x0 x1
       obtain ⟨U, HU⟩ : ∃ U, Hid (U = (((w4.setCell ⟨w.heap.size + 1 + 1 + 1, 0, none⟩ (.int .i64 0)).setCell ⟨w.heap.size + 1 + 1 + 1, 1, none⟩ (.int .i64 0)).setCell ⟨w.heap.size + 1 + 1 + 1 + 1, 0, none⟩ (.int .i64 0)).setCell ⟨w.heap.size + 1 + 1 + 1 + 1, 1, none⟩ (.int .i64 0)) := ⟨_, (rfl : (((w4.setCell ⟨w.heap.size + 1 + 1 + 1, 0, none⟩ (.int .i64 0)).setCell ⟨w.heap.size + 1 + 1 + 1, 1, none⟩ (.int .i64 0)).setCell ⟨w.heap.size + 1 + 1 + 1 + 1, 0, none⟩ (.int .i64 0)).setCell ⟨w.heap.size + 1 + 1 + 1 + 1, 1, none⟩ (.int .i64 0) = _)⟩
       have Y0 : Blk U (w.heap.size + 1 + 1 + 1) [.int .i64 0, .int .i64 0] := by rw [HU.out]; exact (((K4.r0.set 0 _ (by simp)).set 1 _ (by simp)).far (by omega)).far (by omega)
       have Y1 : Blk U (w.heap.size + 1 + 1 + 1 + 1) [.int .i64 0, .int .i64 0] := by rw [HU.out]; exact (((K4.r1.far (by omega)).far (by omega)).set 0 _ (by simp)).set 1 _ (by simp)
       have hBU : Bel w U := by rw [HU.out]; exact bel_set (bel_set (bel_set (bel_set K4.bel (by show w.heap.size ≤ w.heap.size + 1 + 1 + 1; omega) _) (by show w.heap.size ≤ w.heap.size + 1 + 1 + 1; omega) _) (by show w.heap.size ≤ w.heap.size + 1 + 1 + 1 + 1; omega) _) (by show w.heap.size ≤ w.heap.size + 1 + 1 + 1 + 1; omega) _
       have Hno : Hid (strC q ax ay bx b_y = none) := hno
       clear K4 hno
       go_wp2
       rw [← HU.out]
       exact bodyPost_ret (v := .tuple #[pt 0 0, pt 0 0, .bool false]) (by simp [results, Tryz.results98, go_sem, Y0.cell 0 (by simp), Y0.cell 1 (by simp), Y1.cell 0 (by simp), Y1.cell 1 (by simp)]) rfl ⟨0, 0, 0, 0, false, rfl, Hno.out, hBU⟩
   ·obtain rfl : j = 4 := by omega
    have Hb : Hid (strC q ax ay bx b_y = if ((clm s.px q.a q.c = clm s.qx q.a q.c ∧ clm s.py q.b q.d = clm s.qy q.b q.d) ∧ ¬ (ax = bx ∧ ay = b_y)) then none else some ⟨clm s.px q.a q.c, clm s.py q.b q.d, clm s.qx q.a q.c, clm s.qy q.b q.d⟩) := by
     show _ = _
     unfold strC
     rw [Hs.out]
     rfl
    have c1 := fun w' => broughtIn_any q s.px s.py w'
    have c2 := fun w' => broughtIn_any q s.qx s.qy w'
    obtain ⟨t1, Ht1⟩ : ∃ t, Hid (clm s.px q.a q.c = t) := ⟨_, (rfl : clm s.px q.a q.c = _)⟩
    obtain ⟨t2, Ht2⟩ : ∃ t, Hid (clm s.py q.b q.d = t) := ⟨_, (rfl : clm s.py q.b q.d = _)⟩
    obtain ⟨t3, Ht3⟩ : ∃ t, Hid (clm s.qx q.a q.c = t) := ⟨_, (rfl : clm s.qx q.a q.c = _)⟩
    obtain ⟨t4, Ht4⟩ : ∃ t, Hid (clm s.qy q.b q.d = t) := ⟨_, (rfl : clm s.qy q.b q.d = _)⟩
    rw [Ht1.out, Ht2.out] at c1 Hb
    rw [Ht3.out, Ht4.out] at c2 Hb
    obtain ⟨wo, hwo⟩ : ∃ V, V = wr := ⟨_, rfl⟩
    subst hwo
    have hR : ∀ v, Bel wo v → v.cell? ⟨w.heap.size, 0, none⟩ = some (.int .i64 q.a) ∧ v.cell? ⟨w.heap.size, 1, none⟩ = some (.int .i64 q.b) ∧ v.cell? ⟨w.heap.size, 2, none⟩ = some (.int .i64 q.c) ∧ v.cell? ⟨w.heap.size, 3, none⟩ = some (.int .i64 q.d) ∧ v.cell? ⟨B9, 0, none⟩ = some (.int .i64 s.px) ∧ v.cell? ⟨B9, 1, none⟩ = some (.int .i64 s.py) ∧ v.cell? ⟨B10, 0, none⟩ = some (.int .i64 s.qx) ∧ v.cell? ⟨B10, 1, none⟩ = some (.int .i64 s.qy) ∧ v.frozen? ⟨B9, 0, none⟩ = false ∧ v.frozen? ⟨B9, 1, none⟩ = false ∧ v.frozen? ⟨B10, 0, none⟩ = false ∧ v.frozen? ⟨B10, 1, none⟩ = false :=
     fun v h => ⟨(hK.step h).sc.cell 0 (by simp [sciL]), (hK.step h).sc.cell 1 (by simp [sciL]), (hK.step h).sc.cell 2 (by simp [sciL]), (hK.step h).sc.cell 3 (by simp [sciL]), (hK.step h).p.cell 0 (by simp), (hK.step h).p.cell 1 (by simp), (hK.step h).q'.cell 0 (by simp), (hK.step h).q'.cell 1 (by simp), (hK.step h).p.free 0, (hK.step h).p.free 1, (hK.step h).q'.free 0, (hK.step h).q'.free 1⟩
    have gd : Bel wo wo.drew := Bel.drew (Bel.refl _)
    have HKo : Hid (PW w q ax ay bx b_y B9 B10 wo s) := hK
    have ne9 := hK.ne
    have ne10 : B10 ≠ B9 := fun e => hK.ne e.symm
    clear hJ hK
    go_wp2
    go_cut [] (fun wx => PW w q ax ay bx b_y B9 B10 wx ⟨t1, t2, t3, t4⟩)
    case first =>
     have hcs0 := hR _ (Bel.refl wo)
     have hcsd := hR _ gd
     have hS0 : ∀ v, Bel wo v → v.cell? ⟨w.heap.size, 0, none⟩ = some (.int .i64 q.a) ∧ v.cell? ⟨w.heap.size, 1, none⟩ = some (.int .i64 q.b) ∧ v.cell? ⟨w.heap.size, 2, none⟩ = some (.int .i64 q.c) ∧ v.cell? ⟨w.heap.size, 3, none⟩ = some (.int .i64 q.d) := fun v h => ⟨(hR v h).1, (hR v h).2.1, (hR v h).2.2.1, (hR v h).2.2.2.1⟩
     have hS9 : ∀ (v : World) (o : Nat) (u : Value), (v.cell? ⟨w.heap.size, 0, none⟩ = some (.int .i64 q.a) ∧ v.cell? ⟨w.heap.size, 1, none⟩ = some (.int .i64 q.b) ∧ v.cell? ⟨w.heap.size, 2, none⟩ = some (.int .i64 q.c) ∧ v.cell? ⟨w.heap.size, 3, none⟩ = some (.int .i64 q.d)) → ((v.setCell ⟨B9, o, none⟩ u).cell? ⟨w.heap.size, 0, none⟩ = some (.int .i64 q.a) ∧ (v.setCell ⟨B9, o, none⟩ u).cell? ⟨w.heap.size, 1, none⟩ = some (.int .i64 q.b) ∧ (v.setCell ⟨B9, o, none⟩ u).cell? ⟨w.heap.size, 2, none⟩ = some (.int .i64 q.c) ∧ (v.setCell ⟨B9, o, none⟩ u).cell? ⟨w.heap.size, 3, none⟩ = some (.int .i64 q.d)) := fun v o u h => by
      have e : ∀ j, (v.setCell ⟨B9, o, none⟩ u).cell? ⟨w.heap.size, j, none⟩ = v.cell? ⟨w.heap.size, j, none⟩ := fun j => World.cell?_setCell_other _ _ _ _ (fun e => by have := congrArg Addr.block e; simp at this; have := HKo.out.n9; omega)
      rw [e, e, e, e]; exact h
     have hS10 : ∀ (v : World) (o : Nat) (u : Value), (v.cell? ⟨w.heap.size, 0, none⟩ = some (.int .i64 q.a) ∧ v.cell? ⟨w.heap.size, 1, none⟩ = some (.int .i64 q.b) ∧ v.cell? ⟨w.heap.size, 2, none⟩ = some (.int .i64 q.c) ∧ v.cell? ⟨w.heap.size, 3, none⟩ = some (.int .i64 q.d)) → ((v.setCell ⟨B10, o, none⟩ u).cell? ⟨w.heap.size, 0, none⟩ = some (.int .i64 q.a) ∧ (v.setCell ⟨B10, o, none⟩ u).cell? ⟨w.heap.size, 1, none⟩ = some (.int .i64 q.b) ∧ (v.setCell ⟨B10, o, none⟩ u).cell? ⟨w.heap.size, 2, none⟩ = some (.int .i64 q.c) ∧ (v.setCell ⟨B10, o, none⟩ u).cell? ⟨w.heap.size, 3, none⟩ = some (.int .i64 q.d)) := fun v o u h => by
      have e : ∀ j, (v.setCell ⟨B10, o, none⟩ u).cell? ⟨w.heap.size, j, none⟩ = v.cell? ⟨w.heap.size, j, none⟩ := fun j => World.cell?_setCell_other _ _ _ _ (fun e => by have := congrArg Addr.block e; simp at this; have := HKo.out.n10; omega)
      rw [e, e, e, e]; exact h
     have HR : Hid _ := hR
     have HS0 : Hid _ := hS0
     have HS9 : Hid _ := hS9
     have HS10 : Hid _ := hS10
     clear hR hS0 hS9 hS10
     refine wp_region_noPanic ?_
     refine wp_region_held_drew (S := (fun w' => w'.cell? ⟨w.heap.size, 0, none⟩ = some (.int .i64 q.a) ∧ w'.cell? ⟨w.heap.size, 1, none⟩ = some (.int .i64 q.b) ∧ w'.cell? ⟨w.heap.size, 2, none⟩ = some (.int .i64 q.c) ∧ w'.cell? ⟨w.heap.size, 3, none⟩ = some (.int .i64 q.d))) (by kernel_rfl) (HS0.out _ gd) (fun hHeld => ?_)
     refine tk 0 hHeld ?_; refine tk 4 hHeld ?_; refine tk 1 hHeld ?_; refine tk 5 hHeld ?_
     refine rd2 2 6 (fun K hK => ?_) (fun K hK => ?_)
     ·go_simp
      refine hK.out _ _ (hHeld) ?_; clear hK K hHeld; intro hHeld
      try simp only [Act.put, List.setIfInBounds_toArray, List.set_cons_zero, List.set_cons_succ]
      refine rd2 3 6 (fun K hK => ?_) (fun K hK => ?_)
      ·go_simp
       refine (c1 _).mono ?_
       rintro r w' ⟨rfl, hbk0⟩
       have hbk : Bel wo w' := bel_step gd hbk0
       have hcs := HR.out _ hbk
       clear hbk0
       go_wp2_with fail
       refine hK.out _ _ (HS0.out _ hbk) ?_; clear hK K hHeld; intro hHeld
       try simp only [Act.put, List.setIfInBounds_toArray, List.set_cons_zero, List.set_cons_succ]
       refine rd1 6 (fun K hK => ?_)
       go_simp
       refine hK.out _ _ (hHeld) ?_; clear hK K hHeld; intro hHeld
       try simp only [Act.put, List.setIfInBounds_toArray, List.set_cons_zero, List.set_cons_succ]
       refine rd1 7 (fun K hK => ?_)
       go_simp
       refine (c2 _).mono ?_
       rintro r w'' ⟨rfl, hbk0⟩
       have hbk2 : Bel wo w'' := bel_step hbk hbk0
       clear hcs
       have hcs := HR.out _ hbk2
       clear hbk0
       go_wp2_with fail
       refine hK.out _ _ (HS0.out _ hbk2) ?_; clear hK K hHeld; intro hHeld
       try simp only [Act.put, List.setIfInBounds_toArray, List.set_cons_zero, List.set_cons_succ]
       refine rd1 8 (fun K hK => ?_)
       go_simp
       refine hK.out _ _ (HS9.out _ _ _ (HS9.out _ _ _ hHeld)) ?_; clear hK K hHeld; intro hHeld
       try simp only [Act.put, List.setIfInBounds_toArray, List.set_cons_zero, List.set_cons_succ]
       refine rd1 9 (fun K hK => ?_)
       go_simp
       refine hK.out _ _ (HS10.out _ _ _ (HS10.out _ _ _ hHeld)) ?_; clear hK K hHeld; intro hHeld
       try simp only [Act.put, List.setIfInBounds_toArray, List.set_cons_zero, List.set_cons_succ]
       refine wpAnyH_done (by kernel_rfl) ?_ _
       refine NoPanic.normal ?_
       go_wp2_with fail
       go_meet
       exact ((HKo.out.step hbk2).setP t1 t2).setQ t3 t4
      ·go_simp
       refine hK.out _ _ (hHeld) ?_; clear hK K hHeld; intro hHeld
       try simp only [Act.put, List.setIfInBounds_toArray, List.set_cons_zero, List.set_cons_succ]
       refine rd1 3 (fun K hK => ?_)
       go_simp
       refine (c1 _).mono ?_
       rintro r w' ⟨rfl, hbk0⟩
       have hbk : Bel wo w' := bel_step gd hbk0
       have hcs := HR.out _ hbk
       clear hbk0
       go_wp2_with fail
       refine hK.out _ _ (HS0.out _ hbk) ?_; clear hK K hHeld; intro hHeld
       try simp only [Act.put, List.setIfInBounds_toArray, List.set_cons_zero, List.set_cons_succ]
       refine rd1 7 (fun K hK => ?_)
       go_simp
       refine (c2 _).mono ?_
       rintro r w'' ⟨rfl, hbk0⟩
       have hbk2 : Bel wo w'' := bel_step hbk hbk0
       clear hcs
       have hcs := HR.out _ hbk2
       clear hbk0
       go_wp2_with fail
       refine hK.out _ _ (HS0.out _ hbk2) ?_; clear hK K hHeld; intro hHeld
       try simp only [Act.put, List.setIfInBounds_toArray, List.set_cons_zero, List.set_cons_succ]
       refine rd1 8 (fun K hK => ?_)
       go_simp
       refine hK.out _ _ (HS9.out _ _ _ (HS9.out _ _ _ hHeld)) ?_; clear hK K hHeld; intro hHeld
       try simp only [Act.put, List.setIfInBounds_toArray, List.set_cons_zero, List.set_cons_succ]
       refine rd1 9 (fun K hK => ?_)
       go_simp
       refine hK.out _ _ (HS10.out _ _ _ (HS10.out _ _ _ hHeld)) ?_; clear hK K hHeld; intro hHeld
       try simp only [Act.put, List.setIfInBounds_toArray, List.set_cons_zero, List.set_cons_succ]
       refine wpAnyH_done (by kernel_rfl) ?_ _
       refine NoPanic.normal ?_
       go_wp2_with fail
       go_meet
       exact ((HKo.out.step hbk2).setP t1 t2).setQ t3 t4
     ·go_simp
      refine hK.out _ _ (hHeld) ?_; clear hK K hHeld; intro hHeld
      try simp only [Act.put, List.setIfInBounds_toArray, List.set_cons_zero, List.set_cons_succ]
      refine rd1 2 (fun K hK => ?_)
      go_simp
      refine hK.out _ _ (hHeld) ?_; clear hK K hHeld; intro hHeld
      try simp only [Act.put, List.setIfInBounds_toArray, List.set_cons_zero, List.set_cons_succ]
      refine rd1 3 (fun K hK => ?_)
      go_simp
      refine (c1 _).mono ?_
      rintro r w' ⟨rfl, hbk0⟩
      have hbk : Bel wo w' := bel_step gd hbk0
      have hcs := HR.out _ hbk
      clear hbk0
      go_wp2_with fail
      refine hK.out _ _ (HS0.out _ hbk) ?_; clear hK K hHeld; intro hHeld
      try simp only [Act.put, List.setIfInBounds_toArray, List.set_cons_zero, List.set_cons_succ]
      refine rd1 7 (fun K hK => ?_)
      go_simp
      refine (c2 _).mono ?_
      rintro r w'' ⟨rfl, hbk0⟩
      have hbk2 : Bel wo w'' := bel_step hbk hbk0
      clear hcs
      have hcs := HR.out _ hbk2
      clear hbk0
      go_wp2_with fail
      refine hK.out _ _ (HS0.out _ hbk2) ?_; clear hK K hHeld; intro hHeld
      try simp only [Act.put, List.setIfInBounds_toArray, List.set_cons_zero, List.set_cons_succ]
      refine rd1 8 (fun K hK => ?_)
      go_simp
      refine hK.out _ _ (HS9.out _ _ _ (HS9.out _ _ _ hHeld)) ?_; clear hK K hHeld; intro hHeld
      try simp only [Act.put, List.setIfInBounds_toArray, List.set_cons_zero, List.set_cons_succ]
      refine rd1 9 (fun K hK => ?_)
      go_simp
      refine hK.out _ _ (HS10.out _ _ _ (HS10.out _ _ _ hHeld)) ?_; clear hK K hHeld; intro hHeld
      try simp only [Act.put, List.setIfInBounds_toArray, List.set_cons_zero, List.set_cons_succ]
      refine wpAnyH_done (by kernel_rfl) ?_ _
      refine NoPanic.normal ?_
      go_wp2_with fail
      go_meet
      exact ((HKo.out.step hbk2).setP t1 t2).setQ t3 t4
    case rest =>
     have Hk : Hid (PW w q ax ay bx b_y B9 B10 wc ⟨t1, t2, t3, t4⟩) := hcut
     clear hcut hR c1 c2 gd HKo
     obtain ⟨wA, rfl⟩ : ∃ V, V = wc := ⟨_, rfl⟩
     have p0 := Hk.out.p.cell 0 (by simp)
     have p1 := Hk.out.p.cell 1 (by simp)
     have q0 := Hk.out.q'.cell 0 (by simp)
     have q1 := Hk.out.q'.cell 1 (by simp)
     have a0 := Hk.out.a.cell 0 (by simp)
     have a1 := Hk.out.a.cell 1 (by simp)
     have b0 := Hk.out.b.cell 0 (by simp)
     have b1 := Hk.out.b.cell 1 (by simp)
     have r0 := Hk.out.r0.cell 0 (by simp)
     have r1 := Hk.out.r0.cell 1 (by simp)
     have r2 := Hk.out.r1.cell 0 (by simp)
     have r3 := Hk.out.r1.cell 1 (by simp)
     have f0 := Hk.out.r0.free 0
     have f1 := Hk.out.r0.free 1
     have f2 := Hk.out.r1.free 0
     have f3 := Hk.out.r1.free 1
     have m9 := Hk.out.n9
     have m10 := Hk.out.n10
     have ng1 : ¬ B9 = w.heap.size + 1 + 1 + 1 := by omega
     have ng2 : ¬ B9 = w.heap.size + 1 + 1 + 1 + 1 := by omega
     have ng3 : ¬ B10 = w.heap.size + 1 + 1 + 1 := by omega
     have ng4 : ¬ B10 = w.heap.size + 1 + 1 + 1 + 1 := by omega
     have ng5 : ¬ w.heap.size + 1 + 1 + 1 = B9 := by omega
     have ng6 : ¬ w.heap.size + 1 + 1 + 1 + 1 = B9 := by omega
     have ng7 : ¬ w.heap.size + 1 + 1 + 1 = B10 := by omega
     have ng8 : ¬ w.heap.size + 1 + 1 + 1 + 1 = B10 := by omega
     simp only [List.getElem_cons_zero, List.getElem_cons_succ] at p0 p1 q0 q1 a0 a1 b0 b1 r0 r1 r2 r3
     obtain ⟨U, HU⟩ : ∃ U, Hid (U = ((((wA.setCell ⟨w.heap.size + 1 + 1 + 1, 0, none⟩ (.int .i64 t1)).setCell ⟨w.heap.size + 1 + 1 + 1, 1, none⟩ (.int .i64 t2)).setCell ⟨w.heap.size + 1 + 1 + 1 + 1, 0, none⟩ (.int .i64 t3)).setCell ⟨w.heap.size + 1 + 1 + 1 + 1, 1, none⟩ (.int .i64 t4)).drew) := ⟨_, (rfl : ((((wA.setCell ⟨w.heap.size + 1 + 1 + 1, 0, none⟩ (.int .i64 t1)).setCell ⟨w.heap.size + 1 + 1 + 1, 1, none⟩ (.int .i64 t2)).setCell ⟨w.heap.size + 1 + 1 + 1 + 1, 0, none⟩ (.int .i64 t3)).setCell ⟨w.heap.size + 1 + 1 + 1 + 1, 1, none⟩ (.int .i64 t4)).drew = _)⟩
     have Y0 : Blk U (w.heap.size + 1 + 1 + 1) [.int .i64 t1, .int .i64 t2] := by rw [HU.out]; exact ((((Hk.out.r0.set 0 _ (by simp)).set 1 _ (by simp)).far (by omega)).far (by omega)).bel (Bel.drew (Bel.refl _))
     have Y1 : Blk U (w.heap.size + 1 + 1 + 1 + 1) [.int .i64 t3, .int .i64 t4] := by rw [HU.out]; exact ((((Hk.out.r1.far (by omega)).far (by omega)).set 0 _ (by simp)).set 1 _ (by simp)).bel (Bel.drew (Bel.refl _))
     have hBU : Bel w U := by rw [HU.out]; exact Bel.drew (bel_set (bel_set (bel_set (bel_set Hk.out.bel (by show w.heap.size ≤ w.heap.size + 1 + 1 + 1; omega) _) (by show w.heap.size ≤ w.heap.size + 1 + 1 + 1; omega) _) (by show w.heap.size ≤ w.heap.size + 1 + 1 + 1 + 1; omega) _) (by show w.heap.size ≤ w.heap.size + 1 + 1 + 1 + 1; omega) _)
     have u0 := Y0.cell 0 (by simp)
     have u1 := Y0.cell 1 (by simp)
     have u2 := Y1.cell 0 (by simp)
     have u3 := Y1.cell 1 (by simp)
     simp only [List.getElem_cons_zero, List.getElem_cons_succ] at u0 u1 u2 u3
     clear Y0 Y1
     by_cases hpq : t1 = t3 ∧ t2 = t4
     ·have hne : ∀ w, Sem.run Tryz.prog (binOp .neq 61 (.agg #[.int .i64 t1, .int .i64 t2]) (.agg #[.int .i64 t3, .int .i64 t4])) w = .ok (.bool false) w := fun w => by rw [ptNe, pt_same hpq]; rfl
      by_cases hab : ax = bx ∧ ay = b_y
      ·have heq : ∀ w, Sem.run Tryz.prog (binOp .eql 61 (.agg #[.int .i64 ax, .int .i64 ay]) (.agg #[.int .i64 bx, .int .i64 b_y])) w = .ok (.bool true) w := fun w => by rw [ptEq, pt_same hab]
       have HE : Hid (strC q ax ay bx b_y = some ⟨t1, t2, t3, t4⟩) := Hb.out.trans (if_neg fun h => h.2 hab)
       clear hpq hab Hk
       go_wp2
       go_big_region
       go_wp2
       rw [← HU.out]
       exact bodyPost_ret (v := .tuple #[pt t1 t2, pt t3 t4, .bool true]) (by simp [results, Tryz.results98, go_sem, u0, u1, u2, u3]) rfl ⟨_, _, _, _, true, rfl, HE.out, hBU⟩
      ·have heq : ∀ w, Sem.run Tryz.prog (binOp .eql 61 (.agg #[.int .i64 ax, .int .i64 ay]) (.agg #[.int .i64 bx, .int .i64 b_y])) w = .ok (.bool false) w := fun w => by rw [ptEq, pt_diff hab]
       have HE : Hid (strC q ax ay bx b_y = none) := Hb.out.trans (if_pos ⟨hpq, hab⟩)
       clear hpq hab Hk
       go_wp2
       go_big_region
       go_wp2
       rw [← HU.out]
       exact bodyPost_ret (v := .tuple #[pt t1 t2, pt t3 t4, .bool false]) (by simp [results, Tryz.results98, go_sem, u0, u1, u2, u3]) rfl ⟨_, _, _, _, false, rfl, HE.out, hBU⟩
     ·have hne : ∀ w, Sem.run Tryz.prog (binOp .neq 61 (.agg #[.int .i64 t1, .int .i64 t2]) (.agg #[.int .i64 t3, .int .i64 t4])) w = .ok (.bool true) w := fun w => by rw [ptNe, pt_diff hpq]; rfl
      have HE : Hid (strC q ax ay bx b_y = some ⟨t1, t2, t3, t4⟩) := Hb.out.trans (if_neg fun h => hpq h.1)
      clear hpq Hk
      go_wp2
      go_big_region
      go_wp2
      rw [← HU.out]
      exact bodyPost_ret (v := .tuple #[pt t1 t2, pt t3 t4, .bool true]) (by simp [results, Tryz.results98, go_sem, u0, u1, u2, u3]) rfl ⟨_, _, _, _, true, rfl, HE.out, hBU⟩

end Go.Proofs.YtldfcnlhjjiihaaGreat
