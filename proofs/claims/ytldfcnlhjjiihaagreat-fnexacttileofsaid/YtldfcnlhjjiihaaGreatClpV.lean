/-
  Clipping in the model: what of a stretch lies in the box. Contract.
-/
import Derived.Test.YtldfcnlhjjiihaaGreatGA
import Derived.Test.YtldfcnlhjjiihaaGreatCG
import Derived.Test.YtldfcnlhjjiihaaGreatCC
import Derived.BigRegion
namespace Go.Proofs.YtldfcnlhjjiihaaGreat
open Go.RowKit

/-- All that lies in memory while the model cuts a stretch. -/
structure PV (w : World) (q : BoxD) (ax ay bx b_y : Int) (wr : World) (s : StD) : Prop where
 a : Blk wr (w.heap.size) [.int .i64 ax, .int .i64 ay]
 b : Blk wr (w.heap.size + 1) [.int .i64 bx, .int .i64 b_y]
 x : Blk wr (w.heap.size + 1 + 1) [.int .i64 q.a, .int .i64 q.b, .int .i64 q.c, .int .i64 q.d]
 r0 : Blk wr (w.heap.size + 1 + 1 + 1) [.int .i64 0, .int .i64 0]
 r1 : Blk wr (w.heap.size + 1 + 1 + 1 + 1) [.int .i64 0, .int .i64 0]
 p : Blk wr (w.heap.size + 1 + 1 + 1 + 1 + 1) [.int .i64 s.px, .int .i64 s.py]
 q' : Blk wr (w.heap.size + 1 + 1 + 1 + 1 + 1 + 1) [.int .i64 s.qx, .int .i64 s.qy]
 ed : Blk wr (w.heap.size + 1 + 1 + 1 + 1 + 1 + 1 + 1) [.int .i64 q.a, .int .i64 q.c, .int .i64 q.b, .int .i64 q.d]
 bel : Bel w wr
theorem PV.step {w : World} {q : BoxD} {ax ay bx b_y : Int} {wr w' : World} {s : StD} (h : PV w q ax ay bx b_y wr s) (k : Bel wr w') : PV w q ax ay bx b_y w' s :=
 ⟨h.a.bel k, h.b.bel k, h.x.bel k, h.r0.bel k, h.r1.bel k, h.p.bel k, h.q'.bel k, h.ed.bel k, bel_step h.bel k⟩
theorem PV.setP {w : World} {q : BoxD} {ax ay bx b_y : Int} {wr : World} {s : StD} (h : PV w q ax ay bx b_y wr s) (x y : Int) : PV w q ax ay bx b_y ((wr.setCell ⟨w.heap.size + 1 + 1 + 1 + 1 + 1, 0, none⟩ (.int .i64 x)).setCell ⟨w.heap.size + 1 + 1 + 1 + 1 + 1, 1, none⟩ (.int .i64 y)) ⟨x, y, s.qx, s.qy⟩ := by
 obtain ⟨h1, h2, h3, h4, h5, h6, h7, h8, h9⟩ := h
 exact ⟨(h1.far (by omega)).far (by omega), (h2.far (by omega)).far (by omega), (h3.far (by omega)).far (by omega), (h4.far (by omega)).far (by omega), (h5.far (by omega)).far (by omega), (h6.set 0 _ (by simp)).set 1 _ (by simp), (h7.far (by omega)).far (by omega), (h8.far (by omega)).far (by omega), bel_set (bel_set h9 (by show w.heap.size ≤ w.heap.size + 1 + 1 + 1 + 1 + 1; omega) _) (by show w.heap.size ≤ w.heap.size + 1 + 1 + 1 + 1 + 1; omega) _⟩
theorem PV.setQ {w : World} {q : BoxD} {ax ay bx b_y : Int} {wr : World} {s : StD} (h : PV w q ax ay bx b_y wr s) (x y : Int) : PV w q ax ay bx b_y ((wr.setCell ⟨w.heap.size + 1 + 1 + 1 + 1 + 1 + 1, 0, none⟩ (.int .i64 x)).setCell ⟨w.heap.size + 1 + 1 + 1 + 1 + 1 + 1, 1, none⟩ (.int .i64 y)) ⟨s.px, s.py, x, y⟩ := by
 obtain ⟨h1, h2, h3, h4, h5, h6, h7, h8, h9⟩ := h
 exact ⟨(h1.far (by omega)).far (by omega), (h2.far (by omega)).far (by omega), (h3.far (by omega)).far (by omega), (h4.far (by omega)).far (by omega), (h5.far (by omega)).far (by omega), (h6.far (by omega)).far (by omega), (h7.set 0 _ (by simp)).set 1 _ (by simp), (h8.far (by omega)).far (by omega), bel_set (bel_set h9 (by show w.heap.size ≤ w.heap.size + 1 + 1 + 1 + 1 + 1 + 1; omega) _) (by show w.heap.size ≤ w.heap.size + 1 + 1 + 1 + 1 + 1 + 1; omega) _⟩
theorem vstp_go {q : BoxD} {ax ay bx b_y : Int} {i : Nat} {s : StD} (hs : stpT q ax ay bx b_y i = some s) : stpT q ax ay bx b_y (i + 1) = stpE i (edgB q i) ax ay bx b_y s := by simp [stpT, hs]
theorem vstp_none {i : Nat} {e ax ay bx b_y : Int} {s : StD} (hp : outB i e s.px s.py = true) (hq : outB i e s.qx s.qy = true) : stpE i e ax ay bx b_y s = none := by simp [stpE, hp, hq]
theorem vstp_both {i : Nat} {e ax ay bx b_y : Int} {s : StD} (hp : outB i e s.px s.py = false) (hq : outB i e s.qx s.qy = false) : stpE i e ax ay bx b_y s = some s := by simp [stpE, hp, hq]
theorem vstp_p {i : Nat} {e ax ay bx b_y : Int} {s : StD} (hp : outB i e s.px s.py = true) (hq : outB i e s.qx s.qy = false) : stpE i e ax ay bx b_y s = some ⟨crsX i e ax ay bx b_y, crsY i e ax ay bx b_y, s.qx, s.qy⟩ := by simp [stpE, hp, hq]
theorem vstp_q {i : Nat} {e ax ay bx b_y : Int} {s : StD} (hp : outB i e s.px s.py = false) (hq : outB i e s.qx s.qy = true) : stpE i e ax ay bx b_y s = some ⟨s.px, s.py, crsX i e ax ay bx b_y, crsY i e ax ay bx b_y⟩ := by simp [stpE, hp, hq]
theorem vstp_dead {q : BoxD} {ax ay bx b_y : Int} {i : Nat} (h : stpT q ax ay bx b_y i = none) : ∀ j, i ≤ j → stpT q ax ay bx b_y j = none := by
 intro j
 induction j with
 | zero =>
  intro hj
  obtain rfl : i = 0 := by omega
  exact h
 | succ j ih =>
  intro hj
  by_cases e : i = j + 1
  ·subst e; exact h
  ·simp [stpT, ih (by omega)]
theorem vstrC_none {q : BoxD} {ax ay bx b_y : Int} {i : Nat} (hi : i ≤ 4) (h : stpT q ax ay bx b_y i = none) : strC q ax ay bx b_y = none := by
 unfold strC; rw [vstp_dead h 4 hi]; rfl
theorem on0 (x y e : Int) (w : World) : Calls Tryz.prog 79 #[pt x y, .int .i64 e, .bool false, .bool true] w fun r w' => r = .returned (.bool (!outB 0 e x y)) ∧ Bel w w' :=
 (l6On_any x y e false true w).mono fun r w' ⟨h, k⟩ => ⟨h.trans (congrArg (fun b => Ending.returned (.bool b)) (show decide (e ≤ x) = !decide (x < e) from by rw [Bool.eq_iff_iff]; simp)), k⟩
theorem on1 (x y e : Int) (w : World) : Calls Tryz.prog 79 #[pt x y, .int .i64 e, .bool false, .bool false] w fun r w' => r = .returned (.bool (!outB 1 e x y)) ∧ Bel w w' :=
 (l6On_any x y e false false w).mono fun r w' ⟨h, k⟩ => ⟨h.trans (congrArg (fun b => Ending.returned (.bool b)) (show decide (x ≤ e) = !decide (e < x) from by rw [Bool.eq_iff_iff]; simp)), k⟩
theorem on2 (x y e : Int) (w : World) : Calls Tryz.prog 79 #[pt x y, .int .i64 e, .bool true, .bool true] w fun r w' => r = .returned (.bool (!outB 2 e x y)) ∧ Bel w w' :=
 (l6On_any x y e true true w).mono fun r w' ⟨h, k⟩ => ⟨h.trans (congrArg (fun b => Ending.returned (.bool b)) (show decide (e ≤ y) = !decide (y < e) from by rw [Bool.eq_iff_iff]; simp)), k⟩
theorem on3 (x y e : Int) (w : World) : Calls Tryz.prog 79 #[pt x y, .int .i64 e, .bool true, .bool false] w fun r w' => r = .returned (.bool (!outB 3 e x y)) ∧ Bel w w' :=
 (l6On_any x y e true false w).mono fun r w' ⟨h, k⟩ => ⟨h.trans (congrArg (fun b => Ending.returned (.bool b)) (show decide (y ≤ e) = !decide (e < y) from by rw [Bool.eq_iff_iff]; simp)), k⟩

set_option maxRecDepth 100000 in
set_option maxHeartbeats 8000000 in
theorem l6Stretch_any (q : BoxD) (ax ay bx b_y : Int) (w : World) (pa : POk ax ay) (pb : POk bx b_y) (hx0 : q.a ≤ q.c) (hy0 : q.b ≤ q.d) :
  Calls Tryz.prog 47 #[pt ax ay, pt bx b_y, bxv q] w fun r w' => ∃ px py qx qy ok, r = .returned (.tuple #[pt px py, pt qx qy, .bool ok]) ∧ (strC q ax ay bx b_y = if ok then some ⟨px, py, qx, qy⟩ else none) ∧ Bel w w' := by
 obtain ⟨W, HW⟩ : ∃ W, Hid (W = ((((((((w.alloc (.cells #[.int .i64 ax, .int .i64 ay] 61)).alloc (.cells #[.int .i64 bx, .int .i64 b_y] 61)).alloc (.cells #[.int .i64 q.a, .int .i64 q.b, .int .i64 q.c, .int .i64 q.d] 63)).alloc (.cells #[.int .i64 0, .int .i64 0] 61)).alloc (.cells #[.int .i64 0, .int .i64 0] 61)).alloc (.cells #[.int .i64 ax, .int .i64 ay] 61)).alloc (.cells #[.int .i64 bx, .int .i64 b_y] 61)).alloc (.cells #[.int .i64 q.a, .int .i64 q.c, .int .i64 q.b, .int .i64 q.d] 2))) := ⟨_, (rfl : ((((((((w.alloc (.cells #[.int .i64 ax, .int .i64 ay] 61)).alloc (.cells #[.int .i64 bx, .int .i64 b_y] 61)).alloc (.cells #[.int .i64 q.a, .int .i64 q.b, .int .i64 q.c, .int .i64 q.d] 63)).alloc (.cells #[.int .i64 0, .int .i64 0] 61)).alloc (.cells #[.int .i64 0, .int .i64 0] 61)).alloc (.cells #[.int .i64 ax, .int .i64 ay] 61)).alloc (.cells #[.int .i64 bx, .int .i64 b_y] 61)).alloc (.cells #[.int .i64 q.a, .int .i64 q.c, .int .i64 q.b, .int .i64 q.d] 2)) = _)⟩
 have K0 : PV w q ax ay bx b_y W ⟨ax, ay, bx, b_y⟩ := by
  rw [HW.out]
  refine ⟨?_, ?_, ?_, ?_, ?_, ?_, ?_, ?_, (bel_alloc (bel_alloc (bel_alloc (bel_alloc (bel_alloc (bel_alloc (bel_alloc (bel_alloc (Bel.refl _) _) _) _) _) _) _) _) _)⟩
  ·have := (Blk.new w [.int .i64 ax, .int .i64 ay] 61).bel (bel_alloc (bel_alloc (bel_alloc (bel_alloc (bel_alloc (bel_alloc (bel_alloc (Bel.refl _) (.cells #[.int .i64 bx, .int .i64 b_y] 61)) (.cells #[.int .i64 q.a, .int .i64 q.b, .int .i64 q.c, .int .i64 q.d] 63)) (.cells #[.int .i64 0, .int .i64 0] 61)) (.cells #[.int .i64 0, .int .i64 0] 61)) (.cells #[.int .i64 ax, .int .i64 ay] 61)) (.cells #[.int .i64 bx, .int .i64 b_y] 61)) (.cells #[.int .i64 q.a, .int .i64 q.c, .int .i64 q.b, .int .i64 q.d] 2))
   exact this
  ·have := (Blk.new (w.alloc (.cells #[.int .i64 ax, .int .i64 ay] 61)) [.int .i64 bx, .int .i64 b_y] 61).bel (bel_alloc (bel_alloc (bel_alloc (bel_alloc (bel_alloc (bel_alloc (Bel.refl _) (.cells #[.int .i64 q.a, .int .i64 q.b, .int .i64 q.c, .int .i64 q.d] 63)) (.cells #[.int .i64 0, .int .i64 0] 61)) (.cells #[.int .i64 0, .int .i64 0] 61)) (.cells #[.int .i64 ax, .int .i64 ay] 61)) (.cells #[.int .i64 bx, .int .i64 b_y] 61)) (.cells #[.int .i64 q.a, .int .i64 q.c, .int .i64 q.b, .int .i64 q.d] 2))
   simp only [World.size_alloc] at this
   exact this
  ·have := (Blk.new ((w.alloc (.cells #[.int .i64 ax, .int .i64 ay] 61)).alloc (.cells #[.int .i64 bx, .int .i64 b_y] 61)) [.int .i64 q.a, .int .i64 q.b, .int .i64 q.c, .int .i64 q.d] 63).bel (bel_alloc (bel_alloc (bel_alloc (bel_alloc (bel_alloc (Bel.refl _) (.cells #[.int .i64 0, .int .i64 0] 61)) (.cells #[.int .i64 0, .int .i64 0] 61)) (.cells #[.int .i64 ax, .int .i64 ay] 61)) (.cells #[.int .i64 bx, .int .i64 b_y] 61)) (.cells #[.int .i64 q.a, .int .i64 q.c, .int .i64 q.b, .int .i64 q.d] 2))
   simp only [World.size_alloc] at this
   exact this
  ·have := (Blk.new (((w.alloc (.cells #[.int .i64 ax, .int .i64 ay] 61)).alloc (.cells #[.int .i64 bx, .int .i64 b_y] 61)).alloc (.cells #[.int .i64 q.a, .int .i64 q.b, .int .i64 q.c, .int .i64 q.d] 63)) [.int .i64 0, .int .i64 0] 61).bel (bel_alloc (bel_alloc (bel_alloc (bel_alloc (Bel.refl _) (.cells #[.int .i64 0, .int .i64 0] 61)) (.cells #[.int .i64 ax, .int .i64 ay] 61)) (.cells #[.int .i64 bx, .int .i64 b_y] 61)) (.cells #[.int .i64 q.a, .int .i64 q.c, .int .i64 q.b, .int .i64 q.d] 2))
   simp only [World.size_alloc] at this
   exact this
  ·have := (Blk.new ((((w.alloc (.cells #[.int .i64 ax, .int .i64 ay] 61)).alloc (.cells #[.int .i64 bx, .int .i64 b_y] 61)).alloc (.cells #[.int .i64 q.a, .int .i64 q.b, .int .i64 q.c, .int .i64 q.d] 63)).alloc (.cells #[.int .i64 0, .int .i64 0] 61)) [.int .i64 0, .int .i64 0] 61).bel (bel_alloc (bel_alloc (bel_alloc (Bel.refl _) (.cells #[.int .i64 ax, .int .i64 ay] 61)) (.cells #[.int .i64 bx, .int .i64 b_y] 61)) (.cells #[.int .i64 q.a, .int .i64 q.c, .int .i64 q.b, .int .i64 q.d] 2))
   simp only [World.size_alloc] at this
   exact this
  ·have := (Blk.new (((((w.alloc (.cells #[.int .i64 ax, .int .i64 ay] 61)).alloc (.cells #[.int .i64 bx, .int .i64 b_y] 61)).alloc (.cells #[.int .i64 q.a, .int .i64 q.b, .int .i64 q.c, .int .i64 q.d] 63)).alloc (.cells #[.int .i64 0, .int .i64 0] 61)).alloc (.cells #[.int .i64 0, .int .i64 0] 61)) [.int .i64 ax, .int .i64 ay] 61).bel (bel_alloc (bel_alloc (Bel.refl _) (.cells #[.int .i64 bx, .int .i64 b_y] 61)) (.cells #[.int .i64 q.a, .int .i64 q.c, .int .i64 q.b, .int .i64 q.d] 2))
   simp only [World.size_alloc] at this
   exact this
  ·have := (Blk.new ((((((w.alloc (.cells #[.int .i64 ax, .int .i64 ay] 61)).alloc (.cells #[.int .i64 bx, .int .i64 b_y] 61)).alloc (.cells #[.int .i64 q.a, .int .i64 q.b, .int .i64 q.c, .int .i64 q.d] 63)).alloc (.cells #[.int .i64 0, .int .i64 0] 61)).alloc (.cells #[.int .i64 0, .int .i64 0] 61)).alloc (.cells #[.int .i64 ax, .int .i64 ay] 61)) [.int .i64 bx, .int .i64 b_y] 61).bel (bel_alloc (Bel.refl _) (.cells #[.int .i64 q.a, .int .i64 q.c, .int .i64 q.b, .int .i64 q.d] 2))
   simp only [World.size_alloc] at this
   exact this
  ·have := (Blk.new (((((((w.alloc (.cells #[.int .i64 ax, .int .i64 ay] 61)).alloc (.cells #[.int .i64 bx, .int .i64 b_y] 61)).alloc (.cells #[.int .i64 q.a, .int .i64 q.b, .int .i64 q.c, .int .i64 q.d] 63)).alloc (.cells #[.int .i64 0, .int .i64 0] 61)).alloc (.cells #[.int .i64 0, .int .i64 0] 61)).alloc (.cells #[.int .i64 ax, .int .i64 ay] 61)).alloc (.cells #[.int .i64 bx, .int .i64 b_y] 61)) [.int .i64 q.a, .int .i64 q.c, .int .i64 q.b, .int .i64 q.d] 2).bel (Bel.refl _)
   simp only [World.size_alloc] at this
   exact this
 have HK0 : Hid (PV w q ax ay bx b_y W ⟨ax, ay, bx, b_y⟩) := K0
 clear K0
 go_enter Tryz.func47, Tryz.ntmps47
 go_upto_region 4 with fail
 rw [← HW.out]
 clear HW
 go_wp2
 go_loopw [12, 13, 14, 15, 16] (fun i _ _ _ _ wr => ∃ (j : Nat) (s : StD), j ≤ 4 ∧ i = .int .i64 j ∧ stpT q ax ay bx b_y j = some s ∧ PV w q ax ay bx b_y wr s) (fun i _ _ _ _ _ => 4 - (intOf i).toNat)
 case atStart => exact ⟨0, _, by decide, rfl, rfl, HK0.out⟩
 case round =>
  clear HK0
  obtain ⟨j, s, hj, rfl, hs, hK⟩ := hrel
  have Hs : Hid (stpT q ax ay bx b_y j = some s) := hs
  have hJ := stpT_btw j s hs
  clear hs
  by_cases hlt : j < 4
  ·rcases (show j = 0 ∨ j = 1 ∨ j = 2 ∨ j = 3 by omega) with hi0 | hi1 | hi2 | hi3
   ·subst hi0
    obtain ⟨P, HP⟩ : ∃ t, Hid (outB 0 q.a s.px s.py = t) := ⟨_, (rfl : outB 0 q.a s.px s.py = _)⟩
    obtain ⟨Q, HQ⟩ : ∃ t, Hid (outB 0 q.a s.qx s.qy = t) := ⟨_, (rfl : outB 0 q.a s.qx s.qy = _)⟩
    have cP : ∀ w', Calls Tryz.prog 79 #[pt s.px s.py, .int .i64 q.a, .bool false, .bool true] w' fun r w'' => r = .returned (.bool (!P)) ∧ Bel w' w'' := fun w' => by rw [← HP.out]; exact on0 _ _ _ _
    have cQ : ∀ w', Calls Tryz.prog 79 #[pt s.qx s.qy, .int .i64 q.a, .bool false, .bool true] w' fun r w'' => r = .returned (.bool (!Q)) ∧ Bel w' w'' := fun w' => by rw [← HQ.out]; exact on0 _ _ _ _
    obtain ⟨wo, hwo⟩ : ∃ V, V = wr := ⟨_, rfl⟩
    subst hwo
    have hR : ∀ v, Bel wo v → v.cell? ⟨w.heap.size + 1 + 1 + 1 + 1 + 1, 0, none⟩ = some (.int .i64 s.px) ∧ v.cell? ⟨w.heap.size + 1 + 1 + 1 + 1 + 1, 1, none⟩ = some (.int .i64 s.py) ∧ v.cell? ⟨w.heap.size + 1 + 1 + 1 + 1 + 1 + 1 + 1, 0, none⟩ = some (.int .i64 q.a) := fun v h => ⟨(hK.step h).p.cell 0 (by simp), (hK.step h).p.cell 1 (by simp), (hK.step h).ed.cell 0 (by simp)⟩
    have g0 : Bel wo wo := Bel.refl _
    go_wp2
    go_region_held3 (fun w' => Bel wo w') (with_reducible (repeat (first | exact g0 | refine Bel.drew ?_ | assumption | refine bel_then (by assumption) ?_)))
     (first | (go_at_call 79; with_reducible refine (cP _).mono ?_; rintro r w' ⟨rfl, hbk⟩))
    have hH : Bel wo w' := by assumption
    obtain ⟨w1, hw1⟩ : ∃ V, V = w' := ⟨_, rfl⟩
    subst hw1
    have K1 := hK.step hH
    clear hR g0 cP
    have hR : ∀ v, Bel w1 v → v.cell? ⟨w.heap.size + 1 + 1 + 1 + 1 + 1 + 1, 0, none⟩ = some (.int .i64 s.qx) ∧ v.cell? ⟨w.heap.size + 1 + 1 + 1 + 1 + 1 + 1, 1, none⟩ = some (.int .i64 s.qy) ∧ v.cell? ⟨w.heap.size + 1 + 1 + 1 + 1 + 1 + 1 + 1, 0, none⟩ = some (.int .i64 q.a) := fun v h => ⟨(K1.step h).q'.cell 0 (by simp), (K1.step h).q'.cell 1 (by simp), (K1.step h).ed.cell 0 (by simp)⟩
    have g0 : Bel w1 w1 := Bel.refl _
    go_wp2
    go_region_held3 (fun w' => Bel w1 w') (with_reducible (repeat (first | exact g0 | refine Bel.drew ?_ | assumption | refine bel_then (by assumption) ?_)))
     (first | (go_at_call 79; with_reducible refine (cQ _).mono ?_; rintro r w' ⟨rfl, hbk⟩))
    have hH2 : Bel w1 w' := by assumption
    obtain ⟨w2, hw2⟩ : ∃ V, V = w' := ⟨_, rfl⟩
    subst hw2
    have K2 := K1.step hH2
    have HK2 : Hid (PV w q ax ay bx b_y w2 s) := K2
    clear hR g0 cQ K1
    cases P
    ·cases Q
     ·have HS : Hid (stpT q ax ay bx b_y (0 + 1) = some s) := (vstp_go Hs.out).trans (vstp_both HP.out HQ.out)
      clear K2
      go_wp2
      go_roundw
      case rel => exact ⟨0 + 1, s, by omega, by go_num, HS.out, HK2.out⟩
      case measure => simp [intOf]
     ·have hx := btw_cross hJ (i := 0) (e := q.a) (by rw [HP.out, HQ.out]; decide)
      have cC := fun w' => l6End_level s.qx s.qy ax ay bx b_y q.a w' pa pb (hx.1 (by decide)).1 (hx.1 (by decide)).2.1 (hx.1 (by decide)).2.2
      obtain ⟨cx, Hcx⟩ : ∃ t, Hid (crsX 0 q.a ax ay bx b_y = t) := ⟨_, (rfl : crsX 0 q.a ax ay bx b_y = _)⟩
      obtain ⟨cy, Hcy⟩ : ∃ t, Hid (crsY 0 q.a ax ay bx b_y = t) := ⟨_, (rfl : crsY 0 q.a ax ay bx b_y = _)⟩
      have cC' : ∀ w', Calls Tryz.prog 80 #[pt s.qx s.qy, pt ax ay, pt bx b_y, .int .i64 q.a, .bool false] w' fun r w'' => r = .returned (pt cx cy) ∧ Bel w' w'' := fun w' => by rw [← Hcx.out, ← Hcy.out]; exact cC w'
      have HS : Hid (stpT q ax ay bx b_y (0 + 1) = some ⟨s.px, s.py, cx, cy⟩) := by
       show _ = _
       rw [vstp_go Hs.out]
       have := vstp_q (e := q.a) (i := 0) (ax := ax) (ay := ay) (bx := bx) (b_y := b_y) HP.out HQ.out
       rw [Hcx.out, Hcy.out] at this
       exact this
      have gd : Bel w2 w2.drew := Bel.drew (Bel.refl _)
      have HS0 : Hid (∀ v, Bel w2 v → (v.cell? ⟨w.heap.size, 0, none⟩ = some (.int .i64 ax) ∧ v.cell? ⟨w.heap.size, 1, none⟩ = some (.int .i64 ay) ∧ v.cell? ⟨w.heap.size + 1, 0, none⟩ = some (.int .i64 bx) ∧ v.cell? ⟨w.heap.size + 1, 1, none⟩ = some (.int .i64 b_y) ∧ v.cell? ⟨w.heap.size + 1 + 1 + 1 + 1 + 1 + 1 + 1, 0, none⟩ = some (.int .i64 q.a))) := fun v h => ⟨(HK2.out.step h).a.cell 0 (by simp), (HK2.out.step h).a.cell 1 (by simp), (HK2.out.step h).b.cell 0 (by simp), (HK2.out.step h).b.cell 1 (by simp), (HK2.out.step h).ed.cell 0 (by simp)⟩
      have HSs : Hid (∀ (v : World) (o : Nat) (u : Value), (v.cell? ⟨w.heap.size, 0, none⟩ = some (.int .i64 ax) ∧ v.cell? ⟨w.heap.size, 1, none⟩ = some (.int .i64 ay) ∧ v.cell? ⟨w.heap.size + 1, 0, none⟩ = some (.int .i64 bx) ∧ v.cell? ⟨w.heap.size + 1, 1, none⟩ = some (.int .i64 b_y) ∧ v.cell? ⟨w.heap.size + 1 + 1 + 1 + 1 + 1 + 1 + 1, 0, none⟩ = some (.int .i64 q.a)) → ((v.setCell ⟨w.heap.size + 1 + 1 + 1 + 1 + 1 + 1, o, none⟩ u).cell? ⟨w.heap.size, 0, none⟩ = some (.int .i64 ax) ∧ (v.setCell ⟨w.heap.size + 1 + 1 + 1 + 1 + 1 + 1, o, none⟩ u).cell? ⟨w.heap.size, 1, none⟩ = some (.int .i64 ay) ∧ (v.setCell ⟨w.heap.size + 1 + 1 + 1 + 1 + 1 + 1, o, none⟩ u).cell? ⟨w.heap.size + 1, 0, none⟩ = some (.int .i64 bx) ∧ (v.setCell ⟨w.heap.size + 1 + 1 + 1 + 1 + 1 + 1, o, none⟩ u).cell? ⟨w.heap.size + 1, 1, none⟩ = some (.int .i64 b_y) ∧ (v.setCell ⟨w.heap.size + 1 + 1 + 1 + 1 + 1 + 1, o, none⟩ u).cell? ⟨w.heap.size + 1 + 1 + 1 + 1 + 1 + 1 + 1, 0, none⟩ = some (.int .i64 q.a))) := fun v o u h => by
       have e : ∀ k j, k ≠ w.heap.size + 1 + 1 + 1 + 1 + 1 + 1 → (v.setCell ⟨w.heap.size + 1 + 1 + 1 + 1 + 1 + 1, o, none⟩ u).cell? ⟨k, j, none⟩ = v.cell? ⟨k, j, none⟩ := fun k j hk => World.cell?_setCell_other _ _ _ _ (fun e => hk (congrArg Addr.block e).symm)
       rw [e _ _ (by omega), e _ _ (by omega), e _ _ (by omega), e _ _ (by omega), e _ _ (by omega)]; exact h
      have HR : Hid (∀ v, Bel w2 v → v.cell? ⟨w.heap.size + 1 + 1 + 1 + 1 + 1 + 1, 0, none⟩ = some (.int .i64 s.qx) ∧ v.cell? ⟨w.heap.size + 1 + 1 + 1 + 1 + 1 + 1, 1, none⟩ = some (.int .i64 s.qy) ∧ v.frozen? ⟨w.heap.size + 1 + 1 + 1 + 1 + 1 + 1, 0, none⟩ = false ∧ v.frozen? ⟨w.heap.size + 1 + 1 + 1 + 1 + 1 + 1, 1, none⟩ = false) := fun v h => ⟨(HK2.out.step h).q'.cell 0 (by simp), (HK2.out.step h).q'.cell 1 (by simp), (HK2.out.step h).q'.free 0, (HK2.out.step h).q'.free 1⟩
      have hcsd := HR.out _ gd
      clear cC hx K2
      go_wp2
      refine wp_region_noPanic ?_
      refine wp_region_held_drew (S := (fun w' => w'.cell? ⟨w.heap.size, 0, none⟩ = some (.int .i64 ax) ∧ w'.cell? ⟨w.heap.size, 1, none⟩ = some (.int .i64 ay) ∧ w'.cell? ⟨w.heap.size + 1, 0, none⟩ = some (.int .i64 bx) ∧ w'.cell? ⟨w.heap.size + 1, 1, none⟩ = some (.int .i64 b_y) ∧ w'.cell? ⟨w.heap.size + 1 + 1 + 1 + 1 + 1 + 1 + 1, 0, none⟩ = some (.int .i64 q.a))) (by kernel_rfl) (HS0.out _ gd) (fun hHeld => ?_)
      refine tk 1 hHeld ?_; refine tk 2 hHeld ?_; refine tk 3 hHeld ?_; refine tk 4 hHeld ?_; refine tk 5 hHeld ?_; refine tk 6 hHeld ?_
      refine tk 7 hHeld ?_
      refine rd1 0 (fun K hK => ?_)
      go_simp
      refine hK.out _ _ (hHeld) ?_; clear hK K hHeld; intro hHeld
      try simp only [Act.put, List.setIfInBounds_toArray, List.set_cons_zero, List.set_cons_succ]
      refine rd1 8 (fun K hK => ?_)
      go_simp
      refine (cC' _).mono ?_
      rintro r w' ⟨rfl, hbk0⟩
      have hbk : Bel w2 w' := bel_step gd hbk0
      clear hcsd
      have hcs := HR.out _ hbk
      clear hbk0
      go_wp2_with fail
      refine hK.out _ _ (HS0.out _ hbk) ?_; clear hK K hHeld; intro hHeld
      try simp only [Act.put, List.setIfInBounds_toArray, List.set_cons_zero, List.set_cons_succ]
      refine rd1 9 (fun K hK => ?_)
      go_simp
      refine hK.out _ _ (HSs.out _ _ _ (HSs.out _ _ _ hHeld)) ?_; clear hK K hHeld; intro hHeld
      try simp only [Act.put, List.setIfInBounds_toArray, List.set_cons_zero, List.set_cons_succ]
      refine wpAnyH_done (by kernel_rfl) ?_ _
      refine NoPanic.normal ?_
      have HK3 : Hid _ := (HK2.out.step hbk).setQ cx cy
      clear hcs hHeld
      go_wp2
      go_roundw
      case rel => exact ⟨0 + 1, _, by omega, by go_num, HS.out, HK3.out⟩
      case measure => simp [intOf]
    ·cases Q
     ·have hx := btw_cross hJ (i := 0) (e := q.a) (by rw [HP.out, HQ.out]; decide)
      have cC := fun w' => l6End_level s.px s.py ax ay bx b_y q.a w' pa pb (hx.1 (by decide)).1 (hx.1 (by decide)).2.1 (hx.1 (by decide)).2.2
      obtain ⟨cx, Hcx⟩ : ∃ t, Hid (crsX 0 q.a ax ay bx b_y = t) := ⟨_, (rfl : crsX 0 q.a ax ay bx b_y = _)⟩
      obtain ⟨cy, Hcy⟩ : ∃ t, Hid (crsY 0 q.a ax ay bx b_y = t) := ⟨_, (rfl : crsY 0 q.a ax ay bx b_y = _)⟩
      have cC' : ∀ w', Calls Tryz.prog 80 #[pt s.px s.py, pt ax ay, pt bx b_y, .int .i64 q.a, .bool false] w' fun r w'' => r = .returned (pt cx cy) ∧ Bel w' w'' := fun w' => by rw [← Hcx.out, ← Hcy.out]; exact cC w'
      have HS : Hid (stpT q ax ay bx b_y (0 + 1) = some ⟨cx, cy, s.qx, s.qy⟩) := by
       show _ = _
       rw [vstp_go Hs.out]
       have := vstp_p (e := q.a) (i := 0) (ax := ax) (ay := ay) (bx := bx) (b_y := b_y) HP.out HQ.out
       rw [Hcx.out, Hcy.out] at this
       exact this
      have gd : Bel w2 w2.drew := Bel.drew (Bel.refl _)
      have HS0 : Hid (∀ v, Bel w2 v → (v.cell? ⟨w.heap.size, 0, none⟩ = some (.int .i64 ax) ∧ v.cell? ⟨w.heap.size, 1, none⟩ = some (.int .i64 ay) ∧ v.cell? ⟨w.heap.size + 1, 0, none⟩ = some (.int .i64 bx) ∧ v.cell? ⟨w.heap.size + 1, 1, none⟩ = some (.int .i64 b_y) ∧ v.cell? ⟨w.heap.size + 1 + 1 + 1 + 1 + 1 + 1 + 1, 0, none⟩ = some (.int .i64 q.a))) := fun v h => ⟨(HK2.out.step h).a.cell 0 (by simp), (HK2.out.step h).a.cell 1 (by simp), (HK2.out.step h).b.cell 0 (by simp), (HK2.out.step h).b.cell 1 (by simp), (HK2.out.step h).ed.cell 0 (by simp)⟩
      have HSs : Hid (∀ (v : World) (o : Nat) (u : Value), (v.cell? ⟨w.heap.size, 0, none⟩ = some (.int .i64 ax) ∧ v.cell? ⟨w.heap.size, 1, none⟩ = some (.int .i64 ay) ∧ v.cell? ⟨w.heap.size + 1, 0, none⟩ = some (.int .i64 bx) ∧ v.cell? ⟨w.heap.size + 1, 1, none⟩ = some (.int .i64 b_y) ∧ v.cell? ⟨w.heap.size + 1 + 1 + 1 + 1 + 1 + 1 + 1, 0, none⟩ = some (.int .i64 q.a)) → ((v.setCell ⟨w.heap.size + 1 + 1 + 1 + 1 + 1, o, none⟩ u).cell? ⟨w.heap.size, 0, none⟩ = some (.int .i64 ax) ∧ (v.setCell ⟨w.heap.size + 1 + 1 + 1 + 1 + 1, o, none⟩ u).cell? ⟨w.heap.size, 1, none⟩ = some (.int .i64 ay) ∧ (v.setCell ⟨w.heap.size + 1 + 1 + 1 + 1 + 1, o, none⟩ u).cell? ⟨w.heap.size + 1, 0, none⟩ = some (.int .i64 bx) ∧ (v.setCell ⟨w.heap.size + 1 + 1 + 1 + 1 + 1, o, none⟩ u).cell? ⟨w.heap.size + 1, 1, none⟩ = some (.int .i64 b_y) ∧ (v.setCell ⟨w.heap.size + 1 + 1 + 1 + 1 + 1, o, none⟩ u).cell? ⟨w.heap.size + 1 + 1 + 1 + 1 + 1 + 1 + 1, 0, none⟩ = some (.int .i64 q.a))) := fun v o u h => by
       have e : ∀ k j, k ≠ w.heap.size + 1 + 1 + 1 + 1 + 1 → (v.setCell ⟨w.heap.size + 1 + 1 + 1 + 1 + 1, o, none⟩ u).cell? ⟨k, j, none⟩ = v.cell? ⟨k, j, none⟩ := fun k j hk => World.cell?_setCell_other _ _ _ _ (fun e => hk (congrArg Addr.block e).symm)
       rw [e _ _ (by omega), e _ _ (by omega), e _ _ (by omega), e _ _ (by omega), e _ _ (by omega)]; exact h
      have HR : Hid (∀ v, Bel w2 v → v.cell? ⟨w.heap.size + 1 + 1 + 1 + 1 + 1, 0, none⟩ = some (.int .i64 s.px) ∧ v.cell? ⟨w.heap.size + 1 + 1 + 1 + 1 + 1, 1, none⟩ = some (.int .i64 s.py) ∧ v.frozen? ⟨w.heap.size + 1 + 1 + 1 + 1 + 1, 0, none⟩ = false ∧ v.frozen? ⟨w.heap.size + 1 + 1 + 1 + 1 + 1, 1, none⟩ = false) := fun v h => ⟨(HK2.out.step h).p.cell 0 (by simp), (HK2.out.step h).p.cell 1 (by simp), (HK2.out.step h).p.free 0, (HK2.out.step h).p.free 1⟩
      have hcsd := HR.out _ gd
      clear cC hx K2
      go_wp2
      refine wp_region_noPanic ?_
      refine wp_region_held_drew (S := (fun w' => w'.cell? ⟨w.heap.size, 0, none⟩ = some (.int .i64 ax) ∧ w'.cell? ⟨w.heap.size, 1, none⟩ = some (.int .i64 ay) ∧ w'.cell? ⟨w.heap.size + 1, 0, none⟩ = some (.int .i64 bx) ∧ w'.cell? ⟨w.heap.size + 1, 1, none⟩ = some (.int .i64 b_y) ∧ w'.cell? ⟨w.heap.size + 1 + 1 + 1 + 1 + 1 + 1 + 1, 0, none⟩ = some (.int .i64 q.a))) (by kernel_rfl) (HS0.out _ gd) (fun hHeld => ?_)
      refine tk 1 hHeld ?_; refine tk 2 hHeld ?_; refine tk 3 hHeld ?_; refine tk 4 hHeld ?_; refine tk 5 hHeld ?_; refine tk 6 hHeld ?_
      refine tk 7 hHeld ?_
      refine rd1 0 (fun K hK => ?_)
      go_simp
      refine hK.out _ _ (hHeld) ?_; clear hK K hHeld; intro hHeld
      try simp only [Act.put, List.setIfInBounds_toArray, List.set_cons_zero, List.set_cons_succ]
      refine rd1 8 (fun K hK => ?_)
      go_simp
      refine (cC' _).mono ?_
      rintro r w' ⟨rfl, hbk0⟩
      have hbk : Bel w2 w' := bel_step gd hbk0
      clear hcsd
      have hcs := HR.out _ hbk
      clear hbk0
      go_wp2_with fail
      refine hK.out _ _ (HS0.out _ hbk) ?_; clear hK K hHeld; intro hHeld
      try simp only [Act.put, List.setIfInBounds_toArray, List.set_cons_zero, List.set_cons_succ]
      refine rd1 9 (fun K hK => ?_)
      go_simp
      refine hK.out _ _ (HSs.out _ _ _ (HSs.out _ _ _ hHeld)) ?_; clear hK K hHeld; intro hHeld
      try simp only [Act.put, List.setIfInBounds_toArray, List.set_cons_zero, List.set_cons_succ]
      refine wpAnyH_done (by kernel_rfl) ?_ _
      refine NoPanic.normal ?_
      have HK3 : Hid _ := (HK2.out.step hbk).setP cx cy
      clear hcs hHeld
      go_wp2
      go_roundw
      case rel => exact ⟨0 + 1, _, by omega, by go_num, HS.out, HK3.out⟩
      case measure => simp [intOf]
     ·have Hno : Hid (strC q ax ay bx b_y = none) := vstrC_none (by decide) ((vstp_go Hs.out).trans (vstp_none HP.out HQ.out))
      have f0 := K2.r0.free 0
      have f1 := K2.r0.free 1
      have f2 := K2.r1.free 0
      have f3 := K2.r1.free 1
      have z0 := K2.r0.cell 0 (by simp)
      have z1 := K2.r0.cell 1 (by simp)
      have z2 := K2.r1.cell 0 (by simp)
      have z3 := K2.r1.cell 1 (by simp)
      have p0 := K2.p.cell 0 (by simp)
      have p1 := K2.p.cell 1 (by simp)
      have q0 := K2.q'.cell 0 (by simp)
      have q1 := K2.q'.cell 1 (by simp)
      simp only [List.getElem_cons_zero, List.getElem_cons_succ] at z0 z1 z2 z3 p0 p1 q0 q1
      obtain ⟨U, HU⟩ : ∃ U, Hid (U = ((((w2.setCell ⟨w.heap.size + 1 + 1 + 1, 0, none⟩ (.int .i64 s.px)).setCell ⟨w.heap.size + 1 + 1 + 1, 1, none⟩ (.int .i64 s.py)).setCell ⟨w.heap.size + 1 + 1 + 1 + 1, 0, none⟩ (.int .i64 s.qx)).setCell ⟨w.heap.size + 1 + 1 + 1 + 1, 1, none⟩ (.int .i64 s.qy)).drew) := ⟨_, (rfl : ((((w2.setCell ⟨w.heap.size + 1 + 1 + 1, 0, none⟩ (.int .i64 s.px)).setCell ⟨w.heap.size + 1 + 1 + 1, 1, none⟩ (.int .i64 s.py)).setCell ⟨w.heap.size + 1 + 1 + 1 + 1, 0, none⟩ (.int .i64 s.qx)).setCell ⟨w.heap.size + 1 + 1 + 1 + 1, 1, none⟩ (.int .i64 s.qy)).drew = _)⟩
      have Y0 : Blk U (w.heap.size + 1 + 1 + 1) [.int .i64 s.px, .int .i64 s.py] := by rw [HU.out]; exact ((((K2.r0.set 0 _ (by simp)).set 1 _ (by simp)).far (by omega)).far (by omega)).bel (Bel.drew (Bel.refl _))
      have Y1 : Blk U (w.heap.size + 1 + 1 + 1 + 1) [.int .i64 s.qx, .int .i64 s.qy] := by rw [HU.out]; exact ((((K2.r1.far (by omega)).far (by omega)).set 0 _ (by simp)).set 1 _ (by simp)).bel (Bel.drew (Bel.refl _))
      have hBU : Bel w U := by rw [HU.out]; exact Bel.drew (bel_set (bel_set (bel_set (bel_set K2.bel (by show w.heap.size ≤ w.heap.size + 1 + 1 + 1; omega) _) (by show w.heap.size ≤ w.heap.size + 1 + 1 + 1; omega) _) (by show w.heap.size ≤ w.heap.size + 1 + 1 + 1 + 1; omega) _) (by show w.heap.size ≤ w.heap.size + 1 + 1 + 1 + 1; omega) _)
      have u0 := Y0.cell 0 (by simp)
      have u1 := Y0.cell 1 (by simp)
      have u2 := Y1.cell 0 (by simp)
      have u3 := Y1.cell 1 (by simp)
      simp only [List.getElem_cons_zero, List.getElem_cons_succ] at u0 u1 u2 u3
      clear Y0 Y1 K2 HK2
      go_wp2
      go_big_region
      go_wp2
      rw [← HU.out]
      exact bodyPost_ret (v := .tuple #[pt s.px s.py, pt s.qx s.qy, .bool false]) (by simp [results, Tryz.results47, go_sem, u0, u1, u2, u3]) rfl ⟨_, _, _, _, false, rfl, Hno.out, hBU⟩
   ·subst hi1
    obtain ⟨P, HP⟩ : ∃ t, Hid (outB 1 q.c s.px s.py = t) := ⟨_, (rfl : outB 1 q.c s.px s.py = _)⟩
    obtain ⟨Q, HQ⟩ : ∃ t, Hid (outB 1 q.c s.qx s.qy = t) := ⟨_, (rfl : outB 1 q.c s.qx s.qy = _)⟩
    have cP : ∀ w', Calls Tryz.prog 79 #[pt s.px s.py, .int .i64 q.c, .bool false, .bool false] w' fun r w'' => r = .returned (.bool (!P)) ∧ Bel w' w'' := fun w' => by rw [← HP.out]; exact on1 _ _ _ _
    have cQ : ∀ w', Calls Tryz.prog 79 #[pt s.qx s.qy, .int .i64 q.c, .bool false, .bool false] w' fun r w'' => r = .returned (.bool (!Q)) ∧ Bel w' w'' := fun w' => by rw [← HQ.out]; exact on1 _ _ _ _
    obtain ⟨wo, hwo⟩ : ∃ V, V = wr := ⟨_, rfl⟩
    subst hwo
    have hR : ∀ v, Bel wo v → v.cell? ⟨w.heap.size + 1 + 1 + 1 + 1 + 1, 0, none⟩ = some (.int .i64 s.px) ∧ v.cell? ⟨w.heap.size + 1 + 1 + 1 + 1 + 1, 1, none⟩ = some (.int .i64 s.py) ∧ v.cell? ⟨w.heap.size + 1 + 1 + 1 + 1 + 1 + 1 + 1, 1, none⟩ = some (.int .i64 q.c) := fun v h => ⟨(hK.step h).p.cell 0 (by simp), (hK.step h).p.cell 1 (by simp), (hK.step h).ed.cell 1 (by simp)⟩
    have g0 : Bel wo wo := Bel.refl _
    go_wp2
    go_region_held3 (fun w' => Bel wo w') (with_reducible (repeat (first | exact g0 | refine Bel.drew ?_ | assumption | refine bel_then (by assumption) ?_)))
     (first | (go_at_call 79; with_reducible refine (cP _).mono ?_; rintro r w' ⟨rfl, hbk⟩))
    have hH : Bel wo w' := by assumption
    obtain ⟨w1, hw1⟩ : ∃ V, V = w' := ⟨_, rfl⟩
    subst hw1
    have K1 := hK.step hH
    clear hR g0 cP
    have hR : ∀ v, Bel w1 v → v.cell? ⟨w.heap.size + 1 + 1 + 1 + 1 + 1 + 1, 0, none⟩ = some (.int .i64 s.qx) ∧ v.cell? ⟨w.heap.size + 1 + 1 + 1 + 1 + 1 + 1, 1, none⟩ = some (.int .i64 s.qy) ∧ v.cell? ⟨w.heap.size + 1 + 1 + 1 + 1 + 1 + 1 + 1, 1, none⟩ = some (.int .i64 q.c) := fun v h => ⟨(K1.step h).q'.cell 0 (by simp), (K1.step h).q'.cell 1 (by simp), (K1.step h).ed.cell 1 (by simp)⟩
    have g0 : Bel w1 w1 := Bel.refl _
    go_wp2
    go_region_held3 (fun w' => Bel w1 w') (with_reducible (repeat (first | exact g0 | refine Bel.drew ?_ | assumption | refine bel_then (by assumption) ?_)))
     (first | (go_at_call 79; with_reducible refine (cQ _).mono ?_; rintro r w' ⟨rfl, hbk⟩))
    have hH2 : Bel w1 w' := by assumption
    obtain ⟨w2, hw2⟩ : ∃ V, V = w' := ⟨_, rfl⟩
    subst hw2
    have K2 := K1.step hH2
    have HK2 : Hid (PV w q ax ay bx b_y w2 s) := K2
    clear hR g0 cQ K1
    cases P
    ·cases Q
     ·have HS : Hid (stpT q ax ay bx b_y (1 + 1) = some s) := (vstp_go Hs.out).trans (vstp_both HP.out HQ.out)
      clear K2
      go_wp2
      go_roundw
      case rel => exact ⟨1 + 1, s, by omega, by go_num, HS.out, HK2.out⟩
      case measure => simp [intOf]
     ·have hx := btw_cross hJ (i := 1) (e := q.c) (by rw [HP.out, HQ.out]; decide)
      have cC := fun w' => l6End_level s.qx s.qy ax ay bx b_y q.c w' pa pb (hx.1 (by decide)).1 (hx.1 (by decide)).2.1 (hx.1 (by decide)).2.2
      obtain ⟨cx, Hcx⟩ : ∃ t, Hid (crsX 1 q.c ax ay bx b_y = t) := ⟨_, (rfl : crsX 1 q.c ax ay bx b_y = _)⟩
      obtain ⟨cy, Hcy⟩ : ∃ t, Hid (crsY 1 q.c ax ay bx b_y = t) := ⟨_, (rfl : crsY 1 q.c ax ay bx b_y = _)⟩
      have cC' : ∀ w', Calls Tryz.prog 80 #[pt s.qx s.qy, pt ax ay, pt bx b_y, .int .i64 q.c, .bool false] w' fun r w'' => r = .returned (pt cx cy) ∧ Bel w' w'' := fun w' => by rw [← Hcx.out, ← Hcy.out]; exact cC w'
      have HS : Hid (stpT q ax ay bx b_y (1 + 1) = some ⟨s.px, s.py, cx, cy⟩) := by
       show _ = _
       rw [vstp_go Hs.out]
       have := vstp_q (e := q.c) (i := 1) (ax := ax) (ay := ay) (bx := bx) (b_y := b_y) HP.out HQ.out
       rw [Hcx.out, Hcy.out] at this
       exact this
      have gd : Bel w2 w2.drew := Bel.drew (Bel.refl _)
      have HS0 : Hid (∀ v, Bel w2 v → (v.cell? ⟨w.heap.size, 0, none⟩ = some (.int .i64 ax) ∧ v.cell? ⟨w.heap.size, 1, none⟩ = some (.int .i64 ay) ∧ v.cell? ⟨w.heap.size + 1, 0, none⟩ = some (.int .i64 bx) ∧ v.cell? ⟨w.heap.size + 1, 1, none⟩ = some (.int .i64 b_y) ∧ v.cell? ⟨w.heap.size + 1 + 1 + 1 + 1 + 1 + 1 + 1, 1, none⟩ = some (.int .i64 q.c))) := fun v h => ⟨(HK2.out.step h).a.cell 0 (by simp), (HK2.out.step h).a.cell 1 (by simp), (HK2.out.step h).b.cell 0 (by simp), (HK2.out.step h).b.cell 1 (by simp), (HK2.out.step h).ed.cell 1 (by simp)⟩
      have HSs : Hid (∀ (v : World) (o : Nat) (u : Value), (v.cell? ⟨w.heap.size, 0, none⟩ = some (.int .i64 ax) ∧ v.cell? ⟨w.heap.size, 1, none⟩ = some (.int .i64 ay) ∧ v.cell? ⟨w.heap.size + 1, 0, none⟩ = some (.int .i64 bx) ∧ v.cell? ⟨w.heap.size + 1, 1, none⟩ = some (.int .i64 b_y) ∧ v.cell? ⟨w.heap.size + 1 + 1 + 1 + 1 + 1 + 1 + 1, 1, none⟩ = some (.int .i64 q.c)) → ((v.setCell ⟨w.heap.size + 1 + 1 + 1 + 1 + 1 + 1, o, none⟩ u).cell? ⟨w.heap.size, 0, none⟩ = some (.int .i64 ax) ∧ (v.setCell ⟨w.heap.size + 1 + 1 + 1 + 1 + 1 + 1, o, none⟩ u).cell? ⟨w.heap.size, 1, none⟩ = some (.int .i64 ay) ∧ (v.setCell ⟨w.heap.size + 1 + 1 + 1 + 1 + 1 + 1, o, none⟩ u).cell? ⟨w.heap.size + 1, 0, none⟩ = some (.int .i64 bx) ∧ (v.setCell ⟨w.heap.size + 1 + 1 + 1 + 1 + 1 + 1, o, none⟩ u).cell? ⟨w.heap.size + 1, 1, none⟩ = some (.int .i64 b_y) ∧ (v.setCell ⟨w.heap.size + 1 + 1 + 1 + 1 + 1 + 1, o, none⟩ u).cell? ⟨w.heap.size + 1 + 1 + 1 + 1 + 1 + 1 + 1, 1, none⟩ = some (.int .i64 q.c))) := fun v o u h => by
       have e : ∀ k j, k ≠ w.heap.size + 1 + 1 + 1 + 1 + 1 + 1 → (v.setCell ⟨w.heap.size + 1 + 1 + 1 + 1 + 1 + 1, o, none⟩ u).cell? ⟨k, j, none⟩ = v.cell? ⟨k, j, none⟩ := fun k j hk => World.cell?_setCell_other _ _ _ _ (fun e => hk (congrArg Addr.block e).symm)
       rw [e _ _ (by omega), e _ _ (by omega), e _ _ (by omega), e _ _ (by omega), e _ _ (by omega)]; exact h
      have HR : Hid (∀ v, Bel w2 v → v.cell? ⟨w.heap.size + 1 + 1 + 1 + 1 + 1 + 1, 0, none⟩ = some (.int .i64 s.qx) ∧ v.cell? ⟨w.heap.size + 1 + 1 + 1 + 1 + 1 + 1, 1, none⟩ = some (.int .i64 s.qy) ∧ v.frozen? ⟨w.heap.size + 1 + 1 + 1 + 1 + 1 + 1, 0, none⟩ = false ∧ v.frozen? ⟨w.heap.size + 1 + 1 + 1 + 1 + 1 + 1, 1, none⟩ = false) := fun v h => ⟨(HK2.out.step h).q'.cell 0 (by simp), (HK2.out.step h).q'.cell 1 (by simp), (HK2.out.step h).q'.free 0, (HK2.out.step h).q'.free 1⟩
      have hcsd := HR.out _ gd
      clear cC hx K2
      go_wp2
      refine wp_region_noPanic ?_
      refine wp_region_held_drew (S := (fun w' => w'.cell? ⟨w.heap.size, 0, none⟩ = some (.int .i64 ax) ∧ w'.cell? ⟨w.heap.size, 1, none⟩ = some (.int .i64 ay) ∧ w'.cell? ⟨w.heap.size + 1, 0, none⟩ = some (.int .i64 bx) ∧ w'.cell? ⟨w.heap.size + 1, 1, none⟩ = some (.int .i64 b_y) ∧ w'.cell? ⟨w.heap.size + 1 + 1 + 1 + 1 + 1 + 1 + 1, 1, none⟩ = some (.int .i64 q.c))) (by kernel_rfl) (HS0.out _ gd) (fun hHeld => ?_)
      refine tk 1 hHeld ?_; refine tk 2 hHeld ?_; refine tk 3 hHeld ?_; refine tk 4 hHeld ?_; refine tk 5 hHeld ?_; refine tk 6 hHeld ?_
      refine tk 7 hHeld ?_
      refine rd1 0 (fun K hK => ?_)
      go_simp
      refine hK.out _ _ (hHeld) ?_; clear hK K hHeld; intro hHeld
      try simp only [Act.put, List.setIfInBounds_toArray, List.set_cons_zero, List.set_cons_succ]
      refine rd1 8 (fun K hK => ?_)
      go_simp
      refine (cC' _).mono ?_
      rintro r w' ⟨rfl, hbk0⟩
      have hbk : Bel w2 w' := bel_step gd hbk0
      clear hcsd
      have hcs := HR.out _ hbk
      clear hbk0
      go_wp2_with fail
      refine hK.out _ _ (HS0.out _ hbk) ?_; clear hK K hHeld; intro hHeld
      try simp only [Act.put, List.setIfInBounds_toArray, List.set_cons_zero, List.set_cons_succ]
      refine rd1 9 (fun K hK => ?_)
      go_simp
      refine hK.out _ _ (HSs.out _ _ _ (HSs.out _ _ _ hHeld)) ?_; clear hK K hHeld; intro hHeld
      try simp only [Act.put, List.setIfInBounds_toArray, List.set_cons_zero, List.set_cons_succ]
      refine wpAnyH_done (by kernel_rfl) ?_ _
      refine NoPanic.normal ?_
      have HK3 : Hid _ := (HK2.out.step hbk).setQ cx cy
      clear hcs hHeld
      go_wp2
      go_roundw
      case rel => exact ⟨1 + 1, _, by omega, by go_num, HS.out, HK3.out⟩
      case measure => simp [intOf]
    ·cases Q
     ·have hx := btw_cross hJ (i := 1) (e := q.c) (by rw [HP.out, HQ.out]; decide)
      have cC := fun w' => l6End_level s.px s.py ax ay bx b_y q.c w' pa pb (hx.1 (by decide)).1 (hx.1 (by decide)).2.1 (hx.1 (by decide)).2.2
      obtain ⟨cx, Hcx⟩ : ∃ t, Hid (crsX 1 q.c ax ay bx b_y = t) := ⟨_, (rfl : crsX 1 q.c ax ay bx b_y = _)⟩
      obtain ⟨cy, Hcy⟩ : ∃ t, Hid (crsY 1 q.c ax ay bx b_y = t) := ⟨_, (rfl : crsY 1 q.c ax ay bx b_y = _)⟩
      have cC' : ∀ w', Calls Tryz.prog 80 #[pt s.px s.py, pt ax ay, pt bx b_y, .int .i64 q.c, .bool false] w' fun r w'' => r = .returned (pt cx cy) ∧ Bel w' w'' := fun w' => by rw [← Hcx.out, ← Hcy.out]; exact cC w'
      have HS : Hid (stpT q ax ay bx b_y (1 + 1) = some ⟨cx, cy, s.qx, s.qy⟩) := by
       show _ = _
       rw [vstp_go Hs.out]
       have := vstp_p (e := q.c) (i := 1) (ax := ax) (ay := ay) (bx := bx) (b_y := b_y) HP.out HQ.out
       rw [Hcx.out, Hcy.out] at this
       exact this
      have gd : Bel w2 w2.drew := Bel.drew (Bel.refl _)
      have HS0 : Hid (∀ v, Bel w2 v → (v.cell? ⟨w.heap.size, 0, none⟩ = some (.int .i64 ax) ∧ v.cell? ⟨w.heap.size, 1, none⟩ = some (.int .i64 ay) ∧ v.cell? ⟨w.heap.size + 1, 0, none⟩ = some (.int .i64 bx) ∧ v.cell? ⟨w.heap.size + 1, 1, none⟩ = some (.int .i64 b_y) ∧ v.cell? ⟨w.heap.size + 1 + 1 + 1 + 1 + 1 + 1 + 1, 1, none⟩ = some (.int .i64 q.c))) := fun v h => ⟨(HK2.out.step h).a.cell 0 (by simp), (HK2.out.step h).a.cell 1 (by simp), (HK2.out.step h).b.cell 0 (by simp), (HK2.out.step h).b.cell 1 (by simp), (HK2.out.step h).ed.cell 1 (by simp)⟩
      have HSs : Hid (∀ (v : World) (o : Nat) (u : Value), (v.cell? ⟨w.heap.size, 0, none⟩ = some (.int .i64 ax) ∧ v.cell? ⟨w.heap.size, 1, none⟩ = some (.int .i64 ay) ∧ v.cell? ⟨w.heap.size + 1, 0, none⟩ = some (.int .i64 bx) ∧ v.cell? ⟨w.heap.size + 1, 1, none⟩ = some (.int .i64 b_y) ∧ v.cell? ⟨w.heap.size + 1 + 1 + 1 + 1 + 1 + 1 + 1, 1, none⟩ = some (.int .i64 q.c)) → ((v.setCell ⟨w.heap.size + 1 + 1 + 1 + 1 + 1, o, none⟩ u).cell? ⟨w.heap.size, 0, none⟩ = some (.int .i64 ax) ∧ (v.setCell ⟨w.heap.size + 1 + 1 + 1 + 1 + 1, o, none⟩ u).cell? ⟨w.heap.size, 1, none⟩ = some (.int .i64 ay) ∧ (v.setCell ⟨w.heap.size + 1 + 1 + 1 + 1 + 1, o, none⟩ u).cell? ⟨w.heap.size + 1, 0, none⟩ = some (.int .i64 bx) ∧ (v.setCell ⟨w.heap.size + 1 + 1 + 1 + 1 + 1, o, none⟩ u).cell? ⟨w.heap.size + 1, 1, none⟩ = some (.int .i64 b_y) ∧ (v.setCell ⟨w.heap.size + 1 + 1 + 1 + 1 + 1, o, none⟩ u).cell? ⟨w.heap.size + 1 + 1 + 1 + 1 + 1 + 1 + 1, 1, none⟩ = some (.int .i64 q.c))) := fun v o u h => by
       have e : ∀ k j, k ≠ w.heap.size + 1 + 1 + 1 + 1 + 1 → (v.setCell ⟨w.heap.size + 1 + 1 + 1 + 1 + 1, o, none⟩ u).cell? ⟨k, j, none⟩ = v.cell? ⟨k, j, none⟩ := fun k j hk => World.cell?_setCell_other _ _ _ _ (fun e => hk (congrArg Addr.block e).symm)
       rw [e _ _ (by omega), e _ _ (by omega), e _ _ (by omega), e _ _ (by omega), e _ _ (by omega)]; exact h
      have HR : Hid (∀ v, Bel w2 v → v.cell? ⟨w.heap.size + 1 + 1 + 1 + 1 + 1, 0, none⟩ = some (.int .i64 s.px) ∧ v.cell? ⟨w.heap.size + 1 + 1 + 1 + 1 + 1, 1, none⟩ = some (.int .i64 s.py) ∧ v.frozen? ⟨w.heap.size + 1 + 1 + 1 + 1 + 1, 0, none⟩ = false ∧ v.frozen? ⟨w.heap.size + 1 + 1 + 1 + 1 + 1, 1, none⟩ = false) := fun v h => ⟨(HK2.out.step h).p.cell 0 (by simp), (HK2.out.step h).p.cell 1 (by simp), (HK2.out.step h).p.free 0, (HK2.out.step h).p.free 1⟩
      have hcsd := HR.out _ gd
      clear cC hx K2
      go_wp2
      refine wp_region_noPanic ?_
      refine wp_region_held_drew (S := (fun w' => w'.cell? ⟨w.heap.size, 0, none⟩ = some (.int .i64 ax) ∧ w'.cell? ⟨w.heap.size, 1, none⟩ = some (.int .i64 ay) ∧ w'.cell? ⟨w.heap.size + 1, 0, none⟩ = some (.int .i64 bx) ∧ w'.cell? ⟨w.heap.size + 1, 1, none⟩ = some (.int .i64 b_y) ∧ w'.cell? ⟨w.heap.size + 1 + 1 + 1 + 1 + 1 + 1 + 1, 1, none⟩ = some (.int .i64 q.c))) (by kernel_rfl) (HS0.out _ gd) (fun hHeld => ?_)
      refine tk 1 hHeld ?_; refine tk 2 hHeld ?_; refine tk 3 hHeld ?_; refine tk 4 hHeld ?_; refine tk 5 hHeld ?_; refine tk 6 hHeld ?_
      refine tk 7 hHeld ?_
      refine rd1 0 (fun K hK => ?_)
      go_simp
      refine hK.out _ _ (hHeld) ?_; clear hK K hHeld; intro hHeld
      try simp only [Act.put, List.setIfInBounds_toArray, List.set_cons_zero, List.set_cons_succ]
      refine rd1 8 (fun K hK => ?_)
      go_simp
      refine (cC' _).mono ?_
      rintro r w' ⟨rfl, hbk0⟩
      have hbk : Bel w2 w' := bel_step gd hbk0
      clear hcsd
      have hcs := HR.out _ hbk
      clear hbk0
      go_wp2_with fail
      refine hK.out _ _ (HS0.out _ hbk) ?_; clear hK K hHeld; intro hHeld
      try simp only [Act.put, List.setIfInBounds_toArray, List.set_cons_zero, List.set_cons_succ]
      refine rd1 9 (fun K hK => ?_)
      go_simp
      refine hK.out _ _ (HSs.out _ _ _ (HSs.out _ _ _ hHeld)) ?_; clear hK K hHeld; intro hHeld
      try simp only [Act.put, List.setIfInBounds_toArray, List.set_cons_zero, List.set_cons_succ]
      refine wpAnyH_done (by kernel_rfl) ?_ _
      refine NoPanic.normal ?_
      have HK3 : Hid _ := (HK2.out.step hbk).setP cx cy
      clear hcs hHeld
      go_wp2
      go_roundw
      case rel => exact ⟨1 + 1, _, by omega, by go_num, HS.out, HK3.out⟩
      case measure => simp [intOf]
     ·have Hno : Hid (strC q ax ay bx b_y = none) := vstrC_none (by decide) ((vstp_go Hs.out).trans (vstp_none HP.out HQ.out))
      have f0 := K2.r0.free 0
      have f1 := K2.r0.free 1
      have f2 := K2.r1.free 0
      have f3 := K2.r1.free 1
      have z0 := K2.r0.cell 0 (by simp)
      have z1 := K2.r0.cell 1 (by simp)
      have z2 := K2.r1.cell 0 (by simp)
      have z3 := K2.r1.cell 1 (by simp)
      have p0 := K2.p.cell 0 (by simp)
      have p1 := K2.p.cell 1 (by simp)
      have q0 := K2.q'.cell 0 (by simp)
      have q1 := K2.q'.cell 1 (by simp)
      simp only [List.getElem_cons_zero, List.getElem_cons_succ] at z0 z1 z2 z3 p0 p1 q0 q1
      obtain ⟨U, HU⟩ : ∃ U, Hid (U = ((((w2.setCell ⟨w.heap.size + 1 + 1 + 1, 0, none⟩ (.int .i64 s.px)).setCell ⟨w.heap.size + 1 + 1 + 1, 1, none⟩ (.int .i64 s.py)).setCell ⟨w.heap.size + 1 + 1 + 1 + 1, 0, none⟩ (.int .i64 s.qx)).setCell ⟨w.heap.size + 1 + 1 + 1 + 1, 1, none⟩ (.int .i64 s.qy)).drew) := ⟨_, (rfl : ((((w2.setCell ⟨w.heap.size + 1 + 1 + 1, 0, none⟩ (.int .i64 s.px)).setCell ⟨w.heap.size + 1 + 1 + 1, 1, none⟩ (.int .i64 s.py)).setCell ⟨w.heap.size + 1 + 1 + 1 + 1, 0, none⟩ (.int .i64 s.qx)).setCell ⟨w.heap.size + 1 + 1 + 1 + 1, 1, none⟩ (.int .i64 s.qy)).drew = _)⟩
      have Y0 : Blk U (w.heap.size + 1 + 1 + 1) [.int .i64 s.px, .int .i64 s.py] := by rw [HU.out]; exact ((((K2.r0.set 0 _ (by simp)).set 1 _ (by simp)).far (by omega)).far (by omega)).bel (Bel.drew (Bel.refl _))
      have Y1 : Blk U (w.heap.size + 1 + 1 + 1 + 1) [.int .i64 s.qx, .int .i64 s.qy] := by rw [HU.out]; exact ((((K2.r1.far (by omega)).far (by omega)).set 0 _ (by simp)).set 1 _ (by simp)).bel (Bel.drew (Bel.refl _))
      have hBU : Bel w U := by rw [HU.out]; exact Bel.drew (bel_set (bel_set (bel_set (bel_set K2.bel (by show w.heap.size ≤ w.heap.size + 1 + 1 + 1; omega) _) (by show w.heap.size ≤ w.heap.size + 1 + 1 + 1; omega) _) (by show w.heap.size ≤ w.heap.size + 1 + 1 + 1 + 1; omega) _) (by show w.heap.size ≤ w.heap.size + 1 + 1 + 1 + 1; omega) _)
      have u0 := Y0.cell 0 (by simp)
      have u1 := Y0.cell 1 (by simp)
      have u2 := Y1.cell 0 (by simp)
      have u3 := Y1.cell 1 (by simp)
      simp only [List.getElem_cons_zero, List.getElem_cons_succ] at u0 u1 u2 u3
      clear Y0 Y1 K2 HK2
      go_wp2
      go_big_region
      go_wp2
      rw [← HU.out]
      exact bodyPost_ret (v := .tuple #[pt s.px s.py, pt s.qx s.qy, .bool false]) (by simp [results, Tryz.results47, go_sem, u0, u1, u2, u3]) rfl ⟨_, _, _, _, false, rfl, Hno.out, hBU⟩
   ·subst hi2
    obtain ⟨P, HP⟩ : ∃ t, Hid (outB 2 q.b s.px s.py = t) := ⟨_, (rfl : outB 2 q.b s.px s.py = _)⟩
    obtain ⟨Q, HQ⟩ : ∃ t, Hid (outB 2 q.b s.qx s.qy = t) := ⟨_, (rfl : outB 2 q.b s.qx s.qy = _)⟩
    have cP : ∀ w', Calls Tryz.prog 79 #[pt s.px s.py, .int .i64 q.b, .bool true, .bool true] w' fun r w'' => r = .returned (.bool (!P)) ∧ Bel w' w'' := fun w' => by rw [← HP.out]; exact on2 _ _ _ _
    have cQ : ∀ w', Calls Tryz.prog 79 #[pt s.qx s.qy, .int .i64 q.b, .bool true, .bool true] w' fun r w'' => r = .returned (.bool (!Q)) ∧ Bel w' w'' := fun w' => by rw [← HQ.out]; exact on2 _ _ _ _
    obtain ⟨wo, hwo⟩ : ∃ V, V = wr := ⟨_, rfl⟩
    subst hwo
    have hR : ∀ v, Bel wo v → v.cell? ⟨w.heap.size + 1 + 1 + 1 + 1 + 1, 0, none⟩ = some (.int .i64 s.px) ∧ v.cell? ⟨w.heap.size + 1 + 1 + 1 + 1 + 1, 1, none⟩ = some (.int .i64 s.py) ∧ v.cell? ⟨w.heap.size + 1 + 1 + 1 + 1 + 1 + 1 + 1, 2, none⟩ = some (.int .i64 q.b) := fun v h => ⟨(hK.step h).p.cell 0 (by simp), (hK.step h).p.cell 1 (by simp), (hK.step h).ed.cell 2 (by simp)⟩
    have g0 : Bel wo wo := Bel.refl _
    go_wp2
    go_region_held3 (fun w' => Bel wo w') (with_reducible (repeat (first | exact g0 | refine Bel.drew ?_ | assumption | refine bel_then (by assumption) ?_)))
     (first | (go_at_call 79; with_reducible refine (cP _).mono ?_; rintro r w' ⟨rfl, hbk⟩))
    have hH : Bel wo w' := by assumption
    obtain ⟨w1, hw1⟩ : ∃ V, V = w' := ⟨_, rfl⟩
    subst hw1
    have K1 := hK.step hH
    clear hR g0 cP
    have hR : ∀ v, Bel w1 v → v.cell? ⟨w.heap.size + 1 + 1 + 1 + 1 + 1 + 1, 0, none⟩ = some (.int .i64 s.qx) ∧ v.cell? ⟨w.heap.size + 1 + 1 + 1 + 1 + 1 + 1, 1, none⟩ = some (.int .i64 s.qy) ∧ v.cell? ⟨w.heap.size + 1 + 1 + 1 + 1 + 1 + 1 + 1, 2, none⟩ = some (.int .i64 q.b) := fun v h => ⟨(K1.step h).q'.cell 0 (by simp), (K1.step h).q'.cell 1 (by simp), (K1.step h).ed.cell 2 (by simp)⟩
    have g0 : Bel w1 w1 := Bel.refl _
    go_wp2
    go_region_held3 (fun w' => Bel w1 w') (with_reducible (repeat (first | exact g0 | refine Bel.drew ?_ | assumption | refine bel_then (by assumption) ?_)))
     (first | (go_at_call 79; with_reducible refine (cQ _).mono ?_; rintro r w' ⟨rfl, hbk⟩))
    have hH2 : Bel w1 w' := by assumption
    obtain ⟨w2, hw2⟩ : ∃ V, V = w' := ⟨_, rfl⟩
    subst hw2
    have K2 := K1.step hH2
    have HK2 : Hid (PV w q ax ay bx b_y w2 s) := K2
    clear hR g0 cQ K1
    cases P
    ·cases Q
     ·have HS : Hid (stpT q ax ay bx b_y (2 + 1) = some s) := (vstp_go Hs.out).trans (vstp_both HP.out HQ.out)
      clear K2
      go_wp2
      go_roundw
      case rel => exact ⟨2 + 1, s, by omega, by go_num, HS.out, HK2.out⟩
      case measure => simp [intOf]
     ·have hx := btw_cross hJ (i := 2) (e := q.b) (by rw [HP.out, HQ.out]; decide)
      have cC := fun w' => l6End_across s.qx s.qy ax ay bx b_y q.b w' pa pb (hx.2 (by decide)).1 (hx.2 (by decide)).2.1 (hx.2 (by decide)).2.2
      obtain ⟨cx, Hcx⟩ : ∃ t, Hid (crsX 2 q.b ax ay bx b_y = t) := ⟨_, (rfl : crsX 2 q.b ax ay bx b_y = _)⟩
      obtain ⟨cy, Hcy⟩ : ∃ t, Hid (crsY 2 q.b ax ay bx b_y = t) := ⟨_, (rfl : crsY 2 q.b ax ay bx b_y = _)⟩
      have cC' : ∀ w', Calls Tryz.prog 80 #[pt s.qx s.qy, pt ax ay, pt bx b_y, .int .i64 q.b, .bool true] w' fun r w'' => r = .returned (pt cx cy) ∧ Bel w' w'' := fun w' => by rw [← Hcx.out, ← Hcy.out]; exact cC w'
      have HS : Hid (stpT q ax ay bx b_y (2 + 1) = some ⟨s.px, s.py, cx, cy⟩) := by
       show _ = _
       rw [vstp_go Hs.out]
       have := vstp_q (e := q.b) (i := 2) (ax := ax) (ay := ay) (bx := bx) (b_y := b_y) HP.out HQ.out
       rw [Hcx.out, Hcy.out] at this
       exact this
      have gd : Bel w2 w2.drew := Bel.drew (Bel.refl _)
      have HS0 : Hid (∀ v, Bel w2 v → (v.cell? ⟨w.heap.size, 0, none⟩ = some (.int .i64 ax) ∧ v.cell? ⟨w.heap.size, 1, none⟩ = some (.int .i64 ay) ∧ v.cell? ⟨w.heap.size + 1, 0, none⟩ = some (.int .i64 bx) ∧ v.cell? ⟨w.heap.size + 1, 1, none⟩ = some (.int .i64 b_y) ∧ v.cell? ⟨w.heap.size + 1 + 1 + 1 + 1 + 1 + 1 + 1, 2, none⟩ = some (.int .i64 q.b))) := fun v h => ⟨(HK2.out.step h).a.cell 0 (by simp), (HK2.out.step h).a.cell 1 (by simp), (HK2.out.step h).b.cell 0 (by simp), (HK2.out.step h).b.cell 1 (by simp), (HK2.out.step h).ed.cell 2 (by simp)⟩
      have HSs : Hid (∀ (v : World) (o : Nat) (u : Value), (v.cell? ⟨w.heap.size, 0, none⟩ = some (.int .i64 ax) ∧ v.cell? ⟨w.heap.size, 1, none⟩ = some (.int .i64 ay) ∧ v.cell? ⟨w.heap.size + 1, 0, none⟩ = some (.int .i64 bx) ∧ v.cell? ⟨w.heap.size + 1, 1, none⟩ = some (.int .i64 b_y) ∧ v.cell? ⟨w.heap.size + 1 + 1 + 1 + 1 + 1 + 1 + 1, 2, none⟩ = some (.int .i64 q.b)) → ((v.setCell ⟨w.heap.size + 1 + 1 + 1 + 1 + 1 + 1, o, none⟩ u).cell? ⟨w.heap.size, 0, none⟩ = some (.int .i64 ax) ∧ (v.setCell ⟨w.heap.size + 1 + 1 + 1 + 1 + 1 + 1, o, none⟩ u).cell? ⟨w.heap.size, 1, none⟩ = some (.int .i64 ay) ∧ (v.setCell ⟨w.heap.size + 1 + 1 + 1 + 1 + 1 + 1, o, none⟩ u).cell? ⟨w.heap.size + 1, 0, none⟩ = some (.int .i64 bx) ∧ (v.setCell ⟨w.heap.size + 1 + 1 + 1 + 1 + 1 + 1, o, none⟩ u).cell? ⟨w.heap.size + 1, 1, none⟩ = some (.int .i64 b_y) ∧ (v.setCell ⟨w.heap.size + 1 + 1 + 1 + 1 + 1 + 1, o, none⟩ u).cell? ⟨w.heap.size + 1 + 1 + 1 + 1 + 1 + 1 + 1, 2, none⟩ = some (.int .i64 q.b))) := fun v o u h => by
       have e : ∀ k j, k ≠ w.heap.size + 1 + 1 + 1 + 1 + 1 + 1 → (v.setCell ⟨w.heap.size + 1 + 1 + 1 + 1 + 1 + 1, o, none⟩ u).cell? ⟨k, j, none⟩ = v.cell? ⟨k, j, none⟩ := fun k j hk => World.cell?_setCell_other _ _ _ _ (fun e => hk (congrArg Addr.block e).symm)
       rw [e _ _ (by omega), e _ _ (by omega), e _ _ (by omega), e _ _ (by omega), e _ _ (by omega)]; exact h
      have HR : Hid (∀ v, Bel w2 v → v.cell? ⟨w.heap.size + 1 + 1 + 1 + 1 + 1 + 1, 0, none⟩ = some (.int .i64 s.qx) ∧ v.cell? ⟨w.heap.size + 1 + 1 + 1 + 1 + 1 + 1, 1, none⟩ = some (.int .i64 s.qy) ∧ v.frozen? ⟨w.heap.size + 1 + 1 + 1 + 1 + 1 + 1, 0, none⟩ = false ∧ v.frozen? ⟨w.heap.size + 1 + 1 + 1 + 1 + 1 + 1, 1, none⟩ = false) := fun v h => ⟨(HK2.out.step h).q'.cell 0 (by simp), (HK2.out.step h).q'.cell 1 (by simp), (HK2.out.step h).q'.free 0, (HK2.out.step h).q'.free 1⟩
      have hcsd := HR.out _ gd
      clear cC hx K2
      go_wp2
      refine wp_region_noPanic ?_
      refine wp_region_held_drew (S := (fun w' => w'.cell? ⟨w.heap.size, 0, none⟩ = some (.int .i64 ax) ∧ w'.cell? ⟨w.heap.size, 1, none⟩ = some (.int .i64 ay) ∧ w'.cell? ⟨w.heap.size + 1, 0, none⟩ = some (.int .i64 bx) ∧ w'.cell? ⟨w.heap.size + 1, 1, none⟩ = some (.int .i64 b_y) ∧ w'.cell? ⟨w.heap.size + 1 + 1 + 1 + 1 + 1 + 1 + 1, 2, none⟩ = some (.int .i64 q.b))) (by kernel_rfl) (HS0.out _ gd) (fun hHeld => ?_)
      refine tk 1 hHeld ?_; refine tk 2 hHeld ?_; refine tk 3 hHeld ?_; refine tk 4 hHeld ?_; refine tk 5 hHeld ?_; refine tk 6 hHeld ?_
      refine tk 7 hHeld ?_
      refine rd1 0 (fun K hK => ?_)
      go_simp
      refine hK.out _ _ (hHeld) ?_; clear hK K hHeld; intro hHeld
      try simp only [Act.put, List.setIfInBounds_toArray, List.set_cons_zero, List.set_cons_succ]
      refine rd1 8 (fun K hK => ?_)
      go_simp
      refine (cC' _).mono ?_
      rintro r w' ⟨rfl, hbk0⟩
      have hbk : Bel w2 w' := bel_step gd hbk0
      clear hcsd
      have hcs := HR.out _ hbk
      clear hbk0
      go_wp2_with fail
      refine hK.out _ _ (HS0.out _ hbk) ?_; clear hK K hHeld; intro hHeld
      try simp only [Act.put, List.setIfInBounds_toArray, List.set_cons_zero, List.set_cons_succ]
      refine rd1 9 (fun K hK => ?_)
      go_simp
      refine hK.out _ _ (HSs.out _ _ _ (HSs.out _ _ _ hHeld)) ?_; clear hK K hHeld; intro hHeld
      try simp only [Act.put, List.setIfInBounds_toArray, List.set_cons_zero, List.set_cons_succ]
      refine wpAnyH_done (by kernel_rfl) ?_ _
      refine NoPanic.normal ?_
      have HK3 : Hid _ := (HK2.out.step hbk).setQ cx cy
      clear hcs hHeld
      go_wp2
      go_roundw
      case rel => exact ⟨2 + 1, _, by omega, by go_num, HS.out, HK3.out⟩
      case measure => simp [intOf]
    ·cases Q
     ·have hx := btw_cross hJ (i := 2) (e := q.b) (by rw [HP.out, HQ.out]; decide)
      have cC := fun w' => l6End_across s.px s.py ax ay bx b_y q.b w' pa pb (hx.2 (by decide)).1 (hx.2 (by decide)).2.1 (hx.2 (by decide)).2.2
      obtain ⟨cx, Hcx⟩ : ∃ t, Hid (crsX 2 q.b ax ay bx b_y = t) := ⟨_, (rfl : crsX 2 q.b ax ay bx b_y = _)⟩
      obtain ⟨cy, Hcy⟩ : ∃ t, Hid (crsY 2 q.b ax ay bx b_y = t) := ⟨_, (rfl : crsY 2 q.b ax ay bx b_y = _)⟩
      have cC' : ∀ w', Calls Tryz.prog 80 #[pt s.px s.py, pt ax ay, pt bx b_y, .int .i64 q.b, .bool true] w' fun r w'' => r = .returned (pt cx cy) ∧ Bel w' w'' := fun w' => by rw [← Hcx.out, ← Hcy.out]; exact cC w'
      have HS : Hid (stpT q ax ay bx b_y (2 + 1) = some ⟨cx, cy, s.qx, s.qy⟩) := by
       show _ = _
       rw [vstp_go Hs.out]
       have := vstp_p (e := q.b) (i := 2) (ax := ax) (ay := ay) (bx := bx) (b_y := b_y) HP.out HQ.out
       rw [Hcx.out, Hcy.out] at this
       exact this
      have gd : Bel w2 w2.drew := Bel.drew (Bel.refl _)
      have HS0 : Hid (∀ v, Bel w2 v → (v.cell? ⟨w.heap.size, 0, none⟩ = some (.int .i64 ax) ∧ v.cell? ⟨w.heap.size, 1, none⟩ = some (.int .i64 ay) ∧ v.cell? ⟨w.heap.size + 1, 0, none⟩ = some (.int .i64 bx) ∧ v.cell? ⟨w.heap.size + 1, 1, none⟩ = some (.int .i64 b_y) ∧ v.cell? ⟨w.heap.size + 1 + 1 + 1 + 1 + 1 + 1 + 1, 2, none⟩ = some (.int .i64 q.b))) := fun v h => ⟨(HK2.out.step h).a.cell 0 (by simp), (HK2.out.step h).a.cell 1 (by simp), (HK2.out.step h).b.cell 0 (by simp), (HK2.out.step h).b.cell 1 (by simp), (HK2.out.step h).ed.cell 2 (by simp)⟩
      have HSs : Hid (∀ (v : World) (o : Nat) (u : Value), (v.cell? ⟨w.heap.size, 0, none⟩ = some (.int .i64 ax) ∧ v.cell? ⟨w.heap.size, 1, none⟩ = some (.int .i64 ay) ∧ v.cell? ⟨w.heap.size + 1, 0, none⟩ = some (.int .i64 bx) ∧ v.cell? ⟨w.heap.size + 1, 1, none⟩ = some (.int .i64 b_y) ∧ v.cell? ⟨w.heap.size + 1 + 1 + 1 + 1 + 1 + 1 + 1, 2, none⟩ = some (.int .i64 q.b)) → ((v.setCell ⟨w.heap.size + 1 + 1 + 1 + 1 + 1, o, none⟩ u).cell? ⟨w.heap.size, 0, none⟩ = some (.int .i64 ax) ∧ (v.setCell ⟨w.heap.size + 1 + 1 + 1 + 1 + 1, o, none⟩ u).cell? ⟨w.heap.size, 1, none⟩ = some (.int .i64 ay) ∧ (v.setCell ⟨w.heap.size + 1 + 1 + 1 + 1 + 1, o, none⟩ u).cell? ⟨w.heap.size + 1, 0, none⟩ = some (.int .i64 bx) ∧ (v.setCell ⟨w.heap.size + 1 + 1 + 1 + 1 + 1, o, none⟩ u).cell? ⟨w.heap.size + 1, 1, none⟩ = some (.int .i64 b_y) ∧ (v.setCell ⟨w.heap.size + 1 + 1 + 1 + 1 + 1, o, none⟩ u).cell? ⟨w.heap.size + 1 + 1 + 1 + 1 + 1 + 1 + 1, 2, none⟩ = some (.int .i64 q.b))) := fun v o u h => by
       have e : ∀ k j, k ≠ w.heap.size + 1 + 1 + 1 + 1 + 1 → (v.setCell ⟨w.heap.size + 1 + 1 + 1 + 1 + 1, o, none⟩ u).cell? ⟨k, j, none⟩ = v.cell? ⟨k, j, none⟩ := fun k j hk => World.cell?_setCell_other _ _ _ _ (fun e => hk (congrArg Addr.block e).symm)
       rw [e _ _ (by omega), e _ _ (by omega), e _ _ (by omega), e _ _ (by omega), e _ _ (by omega)]; exact h
      have HR : Hid (∀ v, Bel w2 v → v.cell? ⟨w.heap.size + 1 + 1 + 1 + 1 + 1, 0, none⟩ = some (.int .i64 s.px) ∧ v.cell? ⟨w.heap.size + 1 + 1 + 1 + 1 + 1, 1, none⟩ = some (.int .i64 s.py) ∧ v.frozen? ⟨w.heap.size + 1 + 1 + 1 + 1 + 1, 0, none⟩ = false ∧ v.frozen? ⟨w.heap.size + 1 + 1 + 1 + 1 + 1, 1, none⟩ = false) := fun v h => ⟨(HK2.out.step h).p.cell 0 (by simp), (HK2.out.step h).p.cell 1 (by simp), (HK2.out.step h).p.free 0, (HK2.out.step h).p.free 1⟩
      have hcsd := HR.out _ gd
      clear cC hx K2
      go_wp2
      refine wp_region_noPanic ?_
      refine wp_region_held_drew (S := (fun w' => w'.cell? ⟨w.heap.size, 0, none⟩ = some (.int .i64 ax) ∧ w'.cell? ⟨w.heap.size, 1, none⟩ = some (.int .i64 ay) ∧ w'.cell? ⟨w.heap.size + 1, 0, none⟩ = some (.int .i64 bx) ∧ w'.cell? ⟨w.heap.size + 1, 1, none⟩ = some (.int .i64 b_y) ∧ w'.cell? ⟨w.heap.size + 1 + 1 + 1 + 1 + 1 + 1 + 1, 2, none⟩ = some (.int .i64 q.b))) (by kernel_rfl) (HS0.out _ gd) (fun hHeld => ?_)
      refine tk 1 hHeld ?_; refine tk 2 hHeld ?_; refine tk 3 hHeld ?_; refine tk 4 hHeld ?_; refine tk 5 hHeld ?_; refine tk 6 hHeld ?_
      refine tk 7 hHeld ?_
      refine rd1 0 (fun K hK => ?_)
      go_simp
      refine hK.out _ _ (hHeld) ?_; clear hK K hHeld; intro hHeld
      try simp only [Act.put, List.setIfInBounds_toArray, List.set_cons_zero, List.set_cons_succ]
      refine rd1 8 (fun K hK => ?_)
      go_simp
      refine (cC' _).mono ?_
      rintro r w' ⟨rfl, hbk0⟩
      have hbk : Bel w2 w' := bel_step gd hbk0
      clear hcsd
      have hcs := HR.out _ hbk
      clear hbk0
      go_wp2_with fail
      refine hK.out _ _ (HS0.out _ hbk) ?_; clear hK K hHeld; intro hHeld
      try simp only [Act.put, List.setIfInBounds_toArray, List.set_cons_zero, List.set_cons_succ]
      refine rd1 9 (fun K hK => ?_)
      go_simp
      refine hK.out _ _ (HSs.out _ _ _ (HSs.out _ _ _ hHeld)) ?_; clear hK K hHeld; intro hHeld
      try simp only [Act.put, List.setIfInBounds_toArray, List.set_cons_zero, List.set_cons_succ]
      refine wpAnyH_done (by kernel_rfl) ?_ _
      refine NoPanic.normal ?_
      have HK3 : Hid _ := (HK2.out.step hbk).setP cx cy
      clear hcs hHeld
      go_wp2
      go_roundw
      case rel => exact ⟨2 + 1, _, by omega, by go_num, HS.out, HK3.out⟩
      case measure => simp [intOf]
     ·have Hno : Hid (strC q ax ay bx b_y = none) := vstrC_none (by decide) ((vstp_go Hs.out).trans (vstp_none HP.out HQ.out))
      have f0 := K2.r0.free 0
      have f1 := K2.r0.free 1
      have f2 := K2.r1.free 0
      have f3 := K2.r1.free 1
      have z0 := K2.r0.cell 0 (by simp)
      have z1 := K2.r0.cell 1 (by simp)
      have z2 := K2.r1.cell 0 (by simp)
      have z3 := K2.r1.cell 1 (by simp)
      have p0 := K2.p.cell 0 (by simp)
      have p1 := K2.p.cell 1 (by simp)
      have q0 := K2.q'.cell 0 (by simp)
      have q1 := K2.q'.cell 1 (by simp)
      simp only [List.getElem_cons_zero, List.getElem_cons_succ] at z0 z1 z2 z3 p0 p1 q0 q1
      obtain ⟨U, HU⟩ : ∃ U, Hid (U = ((((w2.setCell ⟨w.heap.size + 1 + 1 + 1, 0, none⟩ (.int .i64 s.px)).setCell ⟨w.heap.size + 1 + 1 + 1, 1, none⟩ (.int .i64 s.py)).setCell ⟨w.heap.size + 1 + 1 + 1 + 1, 0, none⟩ (.int .i64 s.qx)).setCell ⟨w.heap.size + 1 + 1 + 1 + 1, 1, none⟩ (.int .i64 s.qy)).drew) := ⟨_, (rfl : ((((w2.setCell ⟨w.heap.size + 1 + 1 + 1, 0, none⟩ (.int .i64 s.px)).setCell ⟨w.heap.size + 1 + 1 + 1, 1, none⟩ (.int .i64 s.py)).setCell ⟨w.heap.size + 1 + 1 + 1 + 1, 0, none⟩ (.int .i64 s.qx)).setCell ⟨w.heap.size + 1 + 1 + 1 + 1, 1, none⟩ (.int .i64 s.qy)).drew = _)⟩
      have Y0 : Blk U (w.heap.size + 1 + 1 + 1) [.int .i64 s.px, .int .i64 s.py] := by rw [HU.out]; exact ((((K2.r0.set 0 _ (by simp)).set 1 _ (by simp)).far (by omega)).far (by omega)).bel (Bel.drew (Bel.refl _))
      have Y1 : Blk U (w.heap.size + 1 + 1 + 1 + 1) [.int .i64 s.qx, .int .i64 s.qy] := by rw [HU.out]; exact ((((K2.r1.far (by omega)).far (by omega)).set 0 _ (by simp)).set 1 _ (by simp)).bel (Bel.drew (Bel.refl _))
      have hBU : Bel w U := by rw [HU.out]; exact Bel.drew (bel_set (bel_set (bel_set (bel_set K2.bel (by show w.heap.size ≤ w.heap.size + 1 + 1 + 1; omega) _) (by show w.heap.size ≤ w.heap.size + 1 + 1 + 1; omega) _) (by show w.heap.size ≤ w.heap.size + 1 + 1 + 1 + 1; omega) _) (by show w.heap.size ≤ w.heap.size + 1 + 1 + 1 + 1; omega) _)
      have u0 := Y0.cell 0 (by simp)
      have u1 := Y0.cell 1 (by simp)
      have u2 := Y1.cell 0 (by simp)
      have u3 := Y1.cell 1 (by simp)
      simp only [List.getElem_cons_zero, List.getElem_cons_succ] at u0 u1 u2 u3
      clear Y0 Y1 K2 HK2
      go_wp2
      go_big_region
      go_wp2
      rw [← HU.out]
      exact bodyPost_ret (v := .tuple #[pt s.px s.py, pt s.qx s.qy, .bool false]) (by simp [results, Tryz.results47, go_sem, u0, u1, u2, u3]) rfl ⟨_, _, _, _, false, rfl, Hno.out, hBU⟩
   ·subst hi3
    obtain ⟨P, HP⟩ : ∃ t, Hid (outB 3 q.d s.px s.py = t) := ⟨_, (rfl : outB 3 q.d s.px s.py = _)⟩
    obtain ⟨Q, HQ⟩ : ∃ t, Hid (outB 3 q.d s.qx s.qy = t) := ⟨_, (rfl : outB 3 q.d s.qx s.qy = _)⟩
    have cP : ∀ w', Calls Tryz.prog 79 #[pt s.px s.py, .int .i64 q.d, .bool true, .bool false] w' fun r w'' => r = .returned (.bool (!P)) ∧ Bel w' w'' := fun w' => by rw [← HP.out]; exact on3 _ _ _ _
    have cQ : ∀ w', Calls Tryz.prog 79 #[pt s.qx s.qy, .int .i64 q.d, .bool true, .bool false] w' fun r w'' => r = .returned (.bool (!Q)) ∧ Bel w' w'' := fun w' => by rw [← HQ.out]; exact on3 _ _ _ _
    obtain ⟨wo, hwo⟩ : ∃ V, V = wr := ⟨_, rfl⟩
    subst hwo
    have hR : ∀ v, Bel wo v → v.cell? ⟨w.heap.size + 1 + 1 + 1 + 1 + 1, 0, none⟩ = some (.int .i64 s.px) ∧ v.cell? ⟨w.heap.size + 1 + 1 + 1 + 1 + 1, 1, none⟩ = some (.int .i64 s.py) ∧ v.cell? ⟨w.heap.size + 1 + 1 + 1 + 1 + 1 + 1 + 1, 3, none⟩ = some (.int .i64 q.d) := fun v h => ⟨(hK.step h).p.cell 0 (by simp), (hK.step h).p.cell 1 (by simp), (hK.step h).ed.cell 3 (by simp)⟩
    have g0 : Bel wo wo := Bel.refl _
    go_wp2
    go_region_held3 (fun w' => Bel wo w') (with_reducible (repeat (first | exact g0 | refine Bel.drew ?_ | assumption | refine bel_then (by assumption) ?_)))
     (first | (go_at_call 79; with_reducible refine (cP _).mono ?_; rintro r w' ⟨rfl, hbk⟩))
    have hH : Bel wo w' := by assumption
    obtain ⟨w1, hw1⟩ : ∃ V, V = w' := ⟨_, rfl⟩
    subst hw1
    have K1 := hK.step hH
    clear hR g0 cP
    have hR : ∀ v, Bel w1 v → v.cell? ⟨w.heap.size + 1 + 1 + 1 + 1 + 1 + 1, 0, none⟩ = some (.int .i64 s.qx) ∧ v.cell? ⟨w.heap.size + 1 + 1 + 1 + 1 + 1 + 1, 1, none⟩ = some (.int .i64 s.qy) ∧ v.cell? ⟨w.heap.size + 1 + 1 + 1 + 1 + 1 + 1 + 1, 3, none⟩ = some (.int .i64 q.d) := fun v h => ⟨(K1.step h).q'.cell 0 (by simp), (K1.step h).q'.cell 1 (by simp), (K1.step h).ed.cell 3 (by simp)⟩
    have g0 : Bel w1 w1 := Bel.refl _
    go_wp2
    go_region_held3 (fun w' => Bel w1 w') (with_reducible (repeat (first | exact g0 | refine Bel.drew ?_ | assumption | refine bel_then (by assumption) ?_)))
     (first | (go_at_call 79; with_reducible refine (cQ _).mono ?_; rintro r w' ⟨rfl, hbk⟩))
    have hH2 : Bel w1 w' := by assumption
    obtain ⟨w2, hw2⟩ : ∃ V, V = w' := ⟨_, rfl⟩
    subst hw2
    have K2 := K1.step hH2
    have HK2 : Hid (PV w q ax ay bx b_y w2 s) := K2
    clear hR g0 cQ K1
    cases P
    ·cases Q
     ·have HS : Hid (stpT q ax ay bx b_y (3 + 1) = some s) := (vstp_go Hs.out).trans (vstp_both HP.out HQ.out)
      clear K2
      go_wp2
      go_roundw
      case rel => exact ⟨3 + 1, s, by omega, by go_num, HS.out, HK2.out⟩
      case measure => simp [intOf]
     ·have hx := btw_cross hJ (i := 3) (e := q.d) (by rw [HP.out, HQ.out]; decide)
      have cC := fun w' => l6End_across s.qx s.qy ax ay bx b_y q.d w' pa pb (hx.2 (by decide)).1 (hx.2 (by decide)).2.1 (hx.2 (by decide)).2.2
      obtain ⟨cx, Hcx⟩ : ∃ t, Hid (crsX 3 q.d ax ay bx b_y = t) := ⟨_, (rfl : crsX 3 q.d ax ay bx b_y = _)⟩
      obtain ⟨cy, Hcy⟩ : ∃ t, Hid (crsY 3 q.d ax ay bx b_y = t) := ⟨_, (rfl : crsY 3 q.d ax ay bx b_y = _)⟩
      have cC' : ∀ w', Calls Tryz.prog 80 #[pt s.qx s.qy, pt ax ay, pt bx b_y, .int .i64 q.d, .bool true] w' fun r w'' => r = .returned (pt cx cy) ∧ Bel w' w'' := fun w' => by rw [← Hcx.out, ← Hcy.out]; exact cC w'
      have HS : Hid (stpT q ax ay bx b_y (3 + 1) = some ⟨s.px, s.py, cx, cy⟩) := by
       show _ = _
       rw [vstp_go Hs.out]
       have := vstp_q (e := q.d) (i := 3) (ax := ax) (ay := ay) (bx := bx) (b_y := b_y) HP.out HQ.out
       rw [Hcx.out, Hcy.out] at this
       exact this
      have gd : Bel w2 w2.drew := Bel.drew (Bel.refl _)
      have HS0 : Hid (∀ v, Bel w2 v → (v.cell? ⟨w.heap.size, 0, none⟩ = some (.int .i64 ax) ∧ v.cell? ⟨w.heap.size, 1, none⟩ = some (.int .i64 ay) ∧ v.cell? ⟨w.heap.size + 1, 0, none⟩ = some (.int .i64 bx) ∧ v.cell? ⟨w.heap.size + 1, 1, none⟩ = some (.int .i64 b_y) ∧ v.cell? ⟨w.heap.size + 1 + 1 + 1 + 1 + 1 + 1 + 1, 3, none⟩ = some (.int .i64 q.d))) := fun v h => ⟨(HK2.out.step h).a.cell 0 (by simp), (HK2.out.step h).a.cell 1 (by simp), (HK2.out.step h).b.cell 0 (by simp), (HK2.out.step h).b.cell 1 (by simp), (HK2.out.step h).ed.cell 3 (by simp)⟩
      have HSs : Hid (∀ (v : World) (o : Nat) (u : Value), (v.cell? ⟨w.heap.size, 0, none⟩ = some (.int .i64 ax) ∧ v.cell? ⟨w.heap.size, 1, none⟩ = some (.int .i64 ay) ∧ v.cell? ⟨w.heap.size + 1, 0, none⟩ = some (.int .i64 bx) ∧ v.cell? ⟨w.heap.size + 1, 1, none⟩ = some (.int .i64 b_y) ∧ v.cell? ⟨w.heap.size + 1 + 1 + 1 + 1 + 1 + 1 + 1, 3, none⟩ = some (.int .i64 q.d)) → ((v.setCell ⟨w.heap.size + 1 + 1 + 1 + 1 + 1 + 1, o, none⟩ u).cell? ⟨w.heap.size, 0, none⟩ = some (.int .i64 ax) ∧ (v.setCell ⟨w.heap.size + 1 + 1 + 1 + 1 + 1 + 1, o, none⟩ u).cell? ⟨w.heap.size, 1, none⟩ = some (.int .i64 ay) ∧ (v.setCell ⟨w.heap.size + 1 + 1 + 1 + 1 + 1 + 1, o, none⟩ u).cell? ⟨w.heap.size + 1, 0, none⟩ = some (.int .i64 bx) ∧ (v.setCell ⟨w.heap.size + 1 + 1 + 1 + 1 + 1 + 1, o, none⟩ u).cell? ⟨w.heap.size + 1, 1, none⟩ = some (.int .i64 b_y) ∧ (v.setCell ⟨w.heap.size + 1 + 1 + 1 + 1 + 1 + 1, o, none⟩ u).cell? ⟨w.heap.size + 1 + 1 + 1 + 1 + 1 + 1 + 1, 3, none⟩ = some (.int .i64 q.d))) := fun v o u h => by
       have e : ∀ k j, k ≠ w.heap.size + 1 + 1 + 1 + 1 + 1 + 1 → (v.setCell ⟨w.heap.size + 1 + 1 + 1 + 1 + 1 + 1, o, none⟩ u).cell? ⟨k, j, none⟩ = v.cell? ⟨k, j, none⟩ := fun k j hk => World.cell?_setCell_other _ _ _ _ (fun e => hk (congrArg Addr.block e).symm)
       rw [e _ _ (by omega), e _ _ (by omega), e _ _ (by omega), e _ _ (by omega), e _ _ (by omega)]; exact h
      have HR : Hid (∀ v, Bel w2 v → v.cell? ⟨w.heap.size + 1 + 1 + 1 + 1 + 1 + 1, 0, none⟩ = some (.int .i64 s.qx) ∧ v.cell? ⟨w.heap.size + 1 + 1 + 1 + 1 + 1 + 1, 1, none⟩ = some (.int .i64 s.qy) ∧ v.frozen? ⟨w.heap.size + 1 + 1 + 1 + 1 + 1 + 1, 0, none⟩ = false ∧ v.frozen? ⟨w.heap.size + 1 + 1 + 1 + 1 + 1 + 1, 1, none⟩ = false) := fun v h => ⟨(HK2.out.step h).q'.cell 0 (by simp), (HK2.out.step h).q'.cell 1 (by simp), (HK2.out.step h).q'.free 0, (HK2.out.step h).q'.free 1⟩
      have hcsd := HR.out _ gd
      clear cC hx K2
      go_wp2
      refine wp_region_noPanic ?_
      refine wp_region_held_drew (S := (fun w' => w'.cell? ⟨w.heap.size, 0, none⟩ = some (.int .i64 ax) ∧ w'.cell? ⟨w.heap.size, 1, none⟩ = some (.int .i64 ay) ∧ w'.cell? ⟨w.heap.size + 1, 0, none⟩ = some (.int .i64 bx) ∧ w'.cell? ⟨w.heap.size + 1, 1, none⟩ = some (.int .i64 b_y) ∧ w'.cell? ⟨w.heap.size + 1 + 1 + 1 + 1 + 1 + 1 + 1, 3, none⟩ = some (.int .i64 q.d))) (by kernel_rfl) (HS0.out _ gd) (fun hHeld => ?_)
      refine tk 1 hHeld ?_; refine tk 2 hHeld ?_; refine tk 3 hHeld ?_; refine tk 4 hHeld ?_; refine tk 5 hHeld ?_; refine tk 6 hHeld ?_
      refine tk 7 hHeld ?_
      refine rd1 0 (fun K hK => ?_)
      go_simp
      refine hK.out _ _ (hHeld) ?_; clear hK K hHeld; intro hHeld
      try simp only [Act.put, List.setIfInBounds_toArray, List.set_cons_zero, List.set_cons_succ]
      refine rd1 8 (fun K hK => ?_)
      go_simp
      refine (cC' _).mono ?_
      rintro r w' ⟨rfl, hbk0⟩
      have hbk : Bel w2 w' := bel_step gd hbk0
      clear hcsd
      have hcs := HR.out _ hbk
      clear hbk0
      go_wp2_with fail
      refine hK.out _ _ (HS0.out _ hbk) ?_; clear hK K hHeld; intro hHeld
      try simp only [Act.put, List.setIfInBounds_toArray, List.set_cons_zero, List.set_cons_succ]
      refine rd1 9 (fun K hK => ?_)
      go_simp
      refine hK.out _ _ (HSs.out _ _ _ (HSs.out _ _ _ hHeld)) ?_; clear hK K hHeld; intro hHeld
      try simp only [Act.put, List.setIfInBounds_toArray, List.set_cons_zero, List.set_cons_succ]
      refine wpAnyH_done (by kernel_rfl) ?_ _
      refine NoPanic.normal ?_
      have HK3 : Hid _ := (HK2.out.step hbk).setQ cx cy
      clear hcs hHeld
      go_wp2
      go_roundw
      case rel => exact ⟨3 + 1, _, by omega, by go_num, HS.out, HK3.out⟩
      case measure => simp [intOf]
    ·cases Q
     ·have hx := btw_cross hJ (i := 3) (e := q.d) (by rw [HP.out, HQ.out]; decide)
      have cC := fun w' => l6End_across s.px s.py ax ay bx b_y q.d w' pa pb (hx.2 (by decide)).1 (hx.2 (by decide)).2.1 (hx.2 (by decide)).2.2
      obtain ⟨cx, Hcx⟩ : ∃ t, Hid (crsX 3 q.d ax ay bx b_y = t) := ⟨_, (rfl : crsX 3 q.d ax ay bx b_y = _)⟩
      obtain ⟨cy, Hcy⟩ : ∃ t, Hid (crsY 3 q.d ax ay bx b_y = t) := ⟨_, (rfl : crsY 3 q.d ax ay bx b_y = _)⟩
      have cC' : ∀ w', Calls Tryz.prog 80 #[pt s.px s.py, pt ax ay, pt bx b_y, .int .i64 q.d, .bool true] w' fun r w'' => r = .returned (pt cx cy) ∧ Bel w' w'' := fun w' => by rw [← Hcx.out, ← Hcy.out]; exact cC w'
      have HS : Hid (stpT q ax ay bx b_y (3 + 1) = some ⟨cx, cy, s.qx, s.qy⟩) := by
       show _ = _
       rw [vstp_go Hs.out]
       have := vstp_p (e := q.d) (i := 3) (ax := ax) (ay := ay) (bx := bx) (b_y := b_y) HP.out HQ.out
       rw [Hcx.out, Hcy.out] at this
       exact this
      have gd : Bel w2 w2.drew := Bel.drew (Bel.refl _)
      have HS0 : Hid (∀ v, Bel w2 v → (v.cell? ⟨w.heap.size, 0, none⟩ = some (.int .i64 ax) ∧ v.cell? ⟨w.heap.size, 1, none⟩ = some (.int .i64 ay) ∧ v.cell? ⟨w.heap.size + 1, 0, none⟩ = some (.int .i64 bx) ∧ v.cell? ⟨w.heap.size + 1, 1, none⟩ = some (.int .i64 b_y) ∧ v.cell? ⟨w.heap.size + 1 + 1 + 1 + 1 + 1 + 1 + 1, 3, none⟩ = some (.int .i64 q.d))) := fun v h => ⟨(HK2.out.step h).a.cell 0 (by simp), (HK2.out.step h).a.cell 1 (by simp), (HK2.out.step h).b.cell 0 (by simp), (HK2.out.step h).b.cell 1 (by simp), (HK2.out.step h).ed.cell 3 (by simp)⟩
      have HSs : Hid (∀ (v : World) (o : Nat) (u : Value), (v.cell? ⟨w.heap.size, 0, none⟩ = some (.int .i64 ax) ∧ v.cell? ⟨w.heap.size, 1, none⟩ = some (.int .i64 ay) ∧ v.cell? ⟨w.heap.size + 1, 0, none⟩ = some (.int .i64 bx) ∧ v.cell? ⟨w.heap.size + 1, 1, none⟩ = some (.int .i64 b_y) ∧ v.cell? ⟨w.heap.size + 1 + 1 + 1 + 1 + 1 + 1 + 1, 3, none⟩ = some (.int .i64 q.d)) → ((v.setCell ⟨w.heap.size + 1 + 1 + 1 + 1 + 1, o, none⟩ u).cell? ⟨w.heap.size, 0, none⟩ = some (.int .i64 ax) ∧ (v.setCell ⟨w.heap.size + 1 + 1 + 1 + 1 + 1, o, none⟩ u).cell? ⟨w.heap.size, 1, none⟩ = some (.int .i64 ay) ∧ (v.setCell ⟨w.heap.size + 1 + 1 + 1 + 1 + 1, o, none⟩ u).cell? ⟨w.heap.size + 1, 0, none⟩ = some (.int .i64 bx) ∧ (v.setCell ⟨w.heap.size + 1 + 1 + 1 + 1 + 1, o, none⟩ u).cell? ⟨w.heap.size + 1, 1, none⟩ = some (.int .i64 b_y) ∧ (v.setCell ⟨w.heap.size + 1 + 1 + 1 + 1 + 1, o, none⟩ u).cell? ⟨w.heap.size + 1 + 1 + 1 + 1 + 1 + 1 + 1, 3, none⟩ = some (.int .i64 q.d))) := fun v o u h => by
       have e : ∀ k j, k ≠ w.heap.size + 1 + 1 + 1 + 1 + 1 → (v.setCell ⟨w.heap.size + 1 + 1 + 1 + 1 + 1, o, none⟩ u).cell? ⟨k, j, none⟩ = v.cell? ⟨k, j, none⟩ := fun k j hk => World.cell?_setCell_other _ _ _ _ (fun e => hk (congrArg Addr.block e).symm)
       rw [e _ _ (by omega), e _ _ (by omega), e _ _ (by omega), e _ _ (by omega), e _ _ (by omega)]; exact h
      have HR : Hid (∀ v, Bel w2 v → v.cell? ⟨w.heap.size + 1 + 1 + 1 + 1 + 1, 0, none⟩ = some (.int .i64 s.px) ∧ v.cell? ⟨w.heap.size + 1 + 1 + 1 + 1 + 1, 1, none⟩ = some (.int .i64 s.py) ∧ v.frozen? ⟨w.heap.size + 1 + 1 + 1 + 1 + 1, 0, none⟩ = false ∧ v.frozen? ⟨w.heap.size + 1 + 1 + 1 + 1 + 1, 1, none⟩ = false) := fun v h => ⟨(HK2.out.step h).p.cell 0 (by simp), (HK2.out.step h).p.cell 1 (by simp), (HK2.out.step h).p.free 0, (HK2.out.step h).p.free 1⟩
      have hcsd := HR.out _ gd
      clear cC hx K2
      go_wp2
      refine wp_region_noPanic ?_
      refine wp_region_held_drew (S := (fun w' => w'.cell? ⟨w.heap.size, 0, none⟩ = some (.int .i64 ax) ∧ w'.cell? ⟨w.heap.size, 1, none⟩ = some (.int .i64 ay) ∧ w'.cell? ⟨w.heap.size + 1, 0, none⟩ = some (.int .i64 bx) ∧ w'.cell? ⟨w.heap.size + 1, 1, none⟩ = some (.int .i64 b_y) ∧ w'.cell? ⟨w.heap.size + 1 + 1 + 1 + 1 + 1 + 1 + 1, 3, none⟩ = some (.int .i64 q.d))) (by kernel_rfl) (HS0.out _ gd) (fun hHeld => ?_)
      refine tk 1 hHeld ?_; refine tk 2 hHeld ?_; refine tk 3 hHeld ?_; refine tk 4 hHeld ?_; refine tk 5 hHeld ?_; refine tk 6 hHeld ?_
      refine tk 7 hHeld ?_
      refine rd1 0 (fun K hK => ?_)
      go_simp
      refine hK.out _ _ (hHeld) ?_; clear hK K hHeld; intro hHeld
      try simp only [Act.put, List.setIfInBounds_toArray, List.set_cons_zero, List.set_cons_succ]
      refine rd1 8 (fun K hK => ?_)
      go_simp
      refine (cC' _).mono ?_
      rintro r w' ⟨rfl, hbk0⟩
      have hbk : Bel w2 w' := bel_step gd hbk0
      clear hcsd
      have hcs := HR.out _ hbk
      clear hbk0
      go_wp2_with fail
      refine hK.out _ _ (HS0.out _ hbk) ?_; clear hK K hHeld; intro hHeld
      try simp only [Act.put, List.setIfInBounds_toArray, List.set_cons_zero, List.set_cons_succ]
      refine rd1 9 (fun K hK => ?_)
      go_simp
      refine hK.out _ _ (HSs.out _ _ _ (HSs.out _ _ _ hHeld)) ?_; clear hK K hHeld; intro hHeld
      try simp only [Act.put, List.setIfInBounds_toArray, List.set_cons_zero, List.set_cons_succ]
      refine wpAnyH_done (by kernel_rfl) ?_ _
      refine NoPanic.normal ?_
      have HK3 : Hid _ := (HK2.out.step hbk).setP cx cy
      clear hcs hHeld
      go_wp2
      go_roundw
      case rel => exact ⟨3 + 1, _, by omega, by go_num, HS.out, HK3.out⟩
      case measure => simp [intOf]
     ·have Hno : Hid (strC q ax ay bx b_y = none) := vstrC_none (by decide) ((vstp_go Hs.out).trans (vstp_none HP.out HQ.out))
      have f0 := K2.r0.free 0
      have f1 := K2.r0.free 1
      have f2 := K2.r1.free 0
      have f3 := K2.r1.free 1
      have z0 := K2.r0.cell 0 (by simp)
      have z1 := K2.r0.cell 1 (by simp)
      have z2 := K2.r1.cell 0 (by simp)
      have z3 := K2.r1.cell 1 (by simp)
      have p0 := K2.p.cell 0 (by simp)
      have p1 := K2.p.cell 1 (by simp)
      have q0 := K2.q'.cell 0 (by simp)
      have q1 := K2.q'.cell 1 (by simp)
      simp only [List.getElem_cons_zero, List.getElem_cons_succ] at z0 z1 z2 z3 p0 p1 q0 q1
      obtain ⟨U, HU⟩ : ∃ U, Hid (U = ((((w2.setCell ⟨w.heap.size + 1 + 1 + 1, 0, none⟩ (.int .i64 s.px)).setCell ⟨w.heap.size + 1 + 1 + 1, 1, none⟩ (.int .i64 s.py)).setCell ⟨w.heap.size + 1 + 1 + 1 + 1, 0, none⟩ (.int .i64 s.qx)).setCell ⟨w.heap.size + 1 + 1 + 1 + 1, 1, none⟩ (.int .i64 s.qy)).drew) := ⟨_, (rfl : ((((w2.setCell ⟨w.heap.size + 1 + 1 + 1, 0, none⟩ (.int .i64 s.px)).setCell ⟨w.heap.size + 1 + 1 + 1, 1, none⟩ (.int .i64 s.py)).setCell ⟨w.heap.size + 1 + 1 + 1 + 1, 0, none⟩ (.int .i64 s.qx)).setCell ⟨w.heap.size + 1 + 1 + 1 + 1, 1, none⟩ (.int .i64 s.qy)).drew = _)⟩
      have Y0 : Blk U (w.heap.size + 1 + 1 + 1) [.int .i64 s.px, .int .i64 s.py] := by rw [HU.out]; exact ((((K2.r0.set 0 _ (by simp)).set 1 _ (by simp)).far (by omega)).far (by omega)).bel (Bel.drew (Bel.refl _))
      have Y1 : Blk U (w.heap.size + 1 + 1 + 1 + 1) [.int .i64 s.qx, .int .i64 s.qy] := by rw [HU.out]; exact ((((K2.r1.far (by omega)).far (by omega)).set 0 _ (by simp)).set 1 _ (by simp)).bel (Bel.drew (Bel.refl _))
      have hBU : Bel w U := by rw [HU.out]; exact Bel.drew (bel_set (bel_set (bel_set (bel_set K2.bel (by show w.heap.size ≤ w.heap.size + 1 + 1 + 1; omega) _) (by show w.heap.size ≤ w.heap.size + 1 + 1 + 1; omega) _) (by show w.heap.size ≤ w.heap.size + 1 + 1 + 1 + 1; omega) _) (by show w.heap.size ≤ w.heap.size + 1 + 1 + 1 + 1; omega) _)
      have u0 := Y0.cell 0 (by simp)
      have u1 := Y0.cell 1 (by simp)
      have u2 := Y1.cell 0 (by simp)
      have u3 := Y1.cell 1 (by simp)
      simp only [List.getElem_cons_zero, List.getElem_cons_succ] at u0 u1 u2 u3
      clear Y0 Y1 K2 HK2
      go_wp2
      go_big_region
      go_wp2
      rw [← HU.out]
      exact bodyPost_ret (v := .tuple #[pt s.px s.py, pt s.qx s.qy, .bool false]) (by simp [results, Tryz.results47, go_sem, u0, u1, u2, u3]) rfl ⟨_, _, _, _, false, rfl, Hno.out, hBU⟩
  ·obtain rfl : j = 4 := by omega
   have Hb : Hid (strC q ax ay bx b_y = if ((clm s.px q.a q.c = clm s.qx q.a q.c ∧ clm s.py q.b q.d = clm s.qy q.b q.d) ∧ ¬ (ax = bx ∧ ay = b_y)) then none else some ⟨clm s.px q.a q.c, clm s.py q.b q.d, clm s.qx q.a q.c, clm s.qy q.b q.d⟩) := by
    show _ = _
    unfold strC
    rw [Hs.out]
    rfl
   have m1 := fun w' => l6Clamp_any s.px q.a q.c w' hx0
   have m2 := fun w' => l6Clamp_any s.py q.b q.d w' hy0
   have m3 := fun w' => l6Clamp_any s.qx q.a q.c w' hx0
   have m4 := fun w' => l6Clamp_any s.qy q.b q.d w' hy0
   obtain ⟨t1, Ht1⟩ : ∃ t, Hid (clm s.px q.a q.c = t) := ⟨_, (rfl : clm s.px q.a q.c = _)⟩
   obtain ⟨t2, Ht2⟩ : ∃ t, Hid (clm s.py q.b q.d = t) := ⟨_, (rfl : clm s.py q.b q.d = _)⟩
   obtain ⟨t3, Ht3⟩ : ∃ t, Hid (clm s.qx q.a q.c = t) := ⟨_, (rfl : clm s.qx q.a q.c = _)⟩
   obtain ⟨t4, Ht4⟩ : ∃ t, Hid (clm s.qy q.b q.d = t) := ⟨_, (rfl : clm s.qy q.b q.d = _)⟩
   rw [Ht1.out] at m1 Hb
   rw [Ht2.out] at m2 Hb
   rw [Ht3.out] at m3 Hb
   rw [Ht4.out] at m4 Hb
   obtain ⟨wA, hwo⟩ : ∃ V, V = wr := ⟨_, rfl⟩
   subst hwo
   have HKA : Hid (PV w q ax ay bx b_y wA s) := hK
   clear hJ hK
   go_upto_region 17 with fail
   go_cut [] (fun wx => PV w q ax ay bx b_y wx ⟨t1, t2, s.qx, s.qy⟩)
   case first =>
    have gd : Bel wA wA.drew := Bel.drew (Bel.refl _)
    have HS0 : Hid (∀ v, Bel wA v → (v.cell? ⟨w.heap.size + 1 + 1, 0, none⟩ = some (.int .i64 q.a) ∧ v.cell? ⟨w.heap.size + 1 + 1, 1, none⟩ = some (.int .i64 q.b) ∧ v.cell? ⟨w.heap.size + 1 + 1, 2, none⟩ = some (.int .i64 q.c) ∧ v.cell? ⟨w.heap.size + 1 + 1, 3, none⟩ = some (.int .i64 q.d))) := fun v h => ⟨(HKA.out.step h).x.cell 0 (by simp), (HKA.out.step h).x.cell 1 (by simp), (HKA.out.step h).x.cell 2 (by simp), (HKA.out.step h).x.cell 3 (by simp)⟩
    have HSs : Hid (∀ (v : World) (o : Nat) (u : Value), (v.cell? ⟨w.heap.size + 1 + 1, 0, none⟩ = some (.int .i64 q.a) ∧ v.cell? ⟨w.heap.size + 1 + 1, 1, none⟩ = some (.int .i64 q.b) ∧ v.cell? ⟨w.heap.size + 1 + 1, 2, none⟩ = some (.int .i64 q.c) ∧ v.cell? ⟨w.heap.size + 1 + 1, 3, none⟩ = some (.int .i64 q.d)) → ((v.setCell ⟨w.heap.size + 1 + 1 + 1 + 1 + 1, o, none⟩ u).cell? ⟨w.heap.size + 1 + 1, 0, none⟩ = some (.int .i64 q.a) ∧ (v.setCell ⟨w.heap.size + 1 + 1 + 1 + 1 + 1, o, none⟩ u).cell? ⟨w.heap.size + 1 + 1, 1, none⟩ = some (.int .i64 q.b) ∧ (v.setCell ⟨w.heap.size + 1 + 1 + 1 + 1 + 1, o, none⟩ u).cell? ⟨w.heap.size + 1 + 1, 2, none⟩ = some (.int .i64 q.c) ∧ (v.setCell ⟨w.heap.size + 1 + 1 + 1 + 1 + 1, o, none⟩ u).cell? ⟨w.heap.size + 1 + 1, 3, none⟩ = some (.int .i64 q.d))) := fun v o u h => by
     have e : ∀ k j, k ≠ w.heap.size + 1 + 1 + 1 + 1 + 1 → (v.setCell ⟨w.heap.size + 1 + 1 + 1 + 1 + 1, o, none⟩ u).cell? ⟨k, j, none⟩ = v.cell? ⟨k, j, none⟩ := fun k j hk => World.cell?_setCell_other _ _ _ _ (fun e => hk (congrArg Addr.block e).symm)
     rw [e _ _ (by omega), e _ _ (by omega), e _ _ (by omega), e _ _ (by omega)]; exact h
    have hcsd : wA.drew.cell? ⟨w.heap.size + 1 + 1 + 1 + 1 + 1, 0, none⟩ = some (.int .i64 s.px) ∧ wA.drew.cell? ⟨w.heap.size + 1 + 1 + 1 + 1 + 1, 1, none⟩ = some (.int .i64 s.py) ∧ wA.drew.frozen? ⟨w.heap.size + 1 + 1 + 1 + 1 + 1, 0, none⟩ = false ∧ wA.drew.frozen? ⟨w.heap.size + 1 + 1 + 1 + 1 + 1, 1, none⟩ = false := ⟨(HKA.out.step gd).p.cell 0 (by simp), (HKA.out.step gd).p.cell 1 (by simp), (HKA.out.step gd).p.free 0, (HKA.out.step gd).p.free 1⟩
    go_wp2
    refine wp_region_noPanic ?_
    refine wp_region_held_drew (S := (fun w' => w'.cell? ⟨w.heap.size + 1 + 1, 0, none⟩ = some (.int .i64 q.a) ∧ w'.cell? ⟨w.heap.size + 1 + 1, 1, none⟩ = some (.int .i64 q.b) ∧ w'.cell? ⟨w.heap.size + 1 + 1, 2, none⟩ = some (.int .i64 q.c) ∧ w'.cell? ⟨w.heap.size + 1 + 1, 3, none⟩ = some (.int .i64 q.d))) (by kernel_rfl) (HS0.out _ gd) (fun hHeld => ?_)
    generalize wA.drew = wD at hcsd gd hHeld ⊢
    refine tk 0 hHeld ?_; refine tk 2 hHeld ?_; refine tk 3 hHeld ?_; refine tk 4 hHeld ?_; refine tk 5 hHeld ?_; refine tk 6 hHeld ?_
    refine tk 7 hHeld ?_; refine tk 9 hHeld ?_; refine tk 11 hHeld ?_; refine tk 12 hHeld ?_; refine tk 13 hHeld ?_
    refine tk 14 hHeld ?_; refine tk 15 hHeld ?_; refine tk 16 hHeld ?_
    refine rd2 1 10 (fun K hK => ?_) (fun K hK => ?_)
    ·go_simp
     refine hK.out _ _ (hHeld) ?_; clear hK K hHeld; intro hHeld
     try simp only [Act.put, List.setIfInBounds_toArray, List.set_cons_zero, List.set_cons_succ]
     refine rd2 8 10 (fun K hK => ?_) (fun K hK => ?_)
     ·go_simp
      refine (m1 _).mono ?_
      rintro r w' ⟨rfl, rfl⟩
      go_wp2_with fail
      refine hK.out _ _ (hHeld) ?_; clear hK K hHeld; intro hHeld
      try simp only [Act.put, List.setIfInBounds_toArray, List.set_cons_zero, List.set_cons_succ]
      refine rd1 10 (fun K hK => ?_)
      go_simp
      refine hK.out _ _ (hHeld) ?_; clear hK K hHeld; intro hHeld
      try simp only [Act.put, List.setIfInBounds_toArray, List.set_cons_zero, List.set_cons_succ]
      refine rd1 17 (fun K hK => ?_)
      go_simp
      refine (m2 _).mono ?_
      rintro r w' ⟨rfl, rfl⟩
      go_wp2_with fail
      refine hK.out _ _ (hHeld) ?_; clear hK K hHeld; intro hHeld
      try simp only [Act.put, List.setIfInBounds_toArray, List.set_cons_zero, List.set_cons_succ]
      refine tk 18 hHeld ?_
      refine rd1 19 (fun K hK => ?_)
      go_simp
      refine hK.out _ _ (HSs.out _ _ _ (HSs.out _ _ _ hHeld)) ?_; clear hK K hHeld; intro hHeld
      try simp only [Act.put, List.setIfInBounds_toArray, List.set_cons_zero, List.set_cons_succ]
      refine wpAnyH_done (by kernel_rfl) ?_ _
      refine NoPanic.normal ?_
      go_wp2_with fail
      go_meet
      exact (HKA.out.step gd).setP t1 t2
     ·go_simp
      refine hK.out _ _ (hHeld) ?_; clear hK K hHeld; intro hHeld
      try simp only [Act.put, List.setIfInBounds_toArray, List.set_cons_zero, List.set_cons_succ]
      refine rd1 8 (fun K hK => ?_)
      go_simp
      refine (m1 _).mono ?_
      rintro r w' ⟨rfl, rfl⟩
      go_wp2_with fail
      refine hK.out _ _ (hHeld) ?_; clear hK K hHeld; intro hHeld
      try simp only [Act.put, List.setIfInBounds_toArray, List.set_cons_zero, List.set_cons_succ]
      refine rd1 17 (fun K hK => ?_)
      go_simp
      refine (m2 _).mono ?_
      rintro r w' ⟨rfl, rfl⟩
      go_wp2_with fail
      refine hK.out _ _ (hHeld) ?_; clear hK K hHeld; intro hHeld
      try simp only [Act.put, List.setIfInBounds_toArray, List.set_cons_zero, List.set_cons_succ]
      refine tk 18 hHeld ?_
      refine rd1 19 (fun K hK => ?_)
      go_simp
      refine hK.out _ _ (HSs.out _ _ _ (HSs.out _ _ _ hHeld)) ?_; clear hK K hHeld; intro hHeld
      try simp only [Act.put, List.setIfInBounds_toArray, List.set_cons_zero, List.set_cons_succ]
      refine wpAnyH_done (by kernel_rfl) ?_ _
      refine NoPanic.normal ?_
      go_wp2_with fail
      go_meet
      exact (HKA.out.step gd).setP t1 t2
    ·go_simp
     refine hK.out _ _ (hHeld) ?_; clear hK K hHeld; intro hHeld
     try simp only [Act.put, List.setIfInBounds_toArray, List.set_cons_zero, List.set_cons_succ]
     refine rd1 1 (fun K hK => ?_)
     go_simp
     refine hK.out _ _ (hHeld) ?_; clear hK K hHeld; intro hHeld
     try simp only [Act.put, List.setIfInBounds_toArray, List.set_cons_zero, List.set_cons_succ]
     refine rd1 8 (fun K hK => ?_)
     go_simp
     refine (m1 _).mono ?_
     rintro r w' ⟨rfl, rfl⟩
     go_wp2_with fail
     refine hK.out _ _ (hHeld) ?_; clear hK K hHeld; intro hHeld
     try simp only [Act.put, List.setIfInBounds_toArray, List.set_cons_zero, List.set_cons_succ]
     refine rd1 17 (fun K hK => ?_)
     go_simp
     refine (m2 _).mono ?_
     rintro r w' ⟨rfl, rfl⟩
     go_wp2_with fail
     refine hK.out _ _ (hHeld) ?_; clear hK K hHeld; intro hHeld
     try simp only [Act.put, List.setIfInBounds_toArray, List.set_cons_zero, List.set_cons_succ]
     refine tk 18 hHeld ?_
     refine rd1 19 (fun K hK => ?_)
     go_simp
     refine hK.out _ _ (HSs.out _ _ _ (HSs.out _ _ _ hHeld)) ?_; clear hK K hHeld; intro hHeld
     try simp only [Act.put, List.setIfInBounds_toArray, List.set_cons_zero, List.set_cons_succ]
     refine wpAnyH_done (by kernel_rfl) ?_ _
     refine NoPanic.normal ?_
     go_wp2_with fail
     go_meet
     exact (HKA.out.step gd).setP t1 t2
   case rest =>
    have HKA : Hid (PV w q ax ay bx b_y wc ⟨t1, t2, s.qx, s.qy⟩) := hcut
    clear hcut
    obtain ⟨wA, rfl⟩ : ∃ V, V = wc := ⟨_, rfl⟩
    go_upto_region 18 with fail
    go_cut [] (fun wx => PV w q ax ay bx b_y wx ⟨t1, t2, t3, t4⟩)
    case first =>
     have gd : Bel wA wA.drew := Bel.drew (Bel.refl _)
     have HS0 : Hid (∀ v, Bel wA v → (v.cell? ⟨w.heap.size + 1 + 1, 0, none⟩ = some (.int .i64 q.a) ∧ v.cell? ⟨w.heap.size + 1 + 1, 1, none⟩ = some (.int .i64 q.b) ∧ v.cell? ⟨w.heap.size + 1 + 1, 2, none⟩ = some (.int .i64 q.c) ∧ v.cell? ⟨w.heap.size + 1 + 1, 3, none⟩ = some (.int .i64 q.d))) := fun v h => ⟨(HKA.out.step h).x.cell 0 (by simp), (HKA.out.step h).x.cell 1 (by simp), (HKA.out.step h).x.cell 2 (by simp), (HKA.out.step h).x.cell 3 (by simp)⟩
     have HSs : Hid (∀ (v : World) (o : Nat) (u : Value), (v.cell? ⟨w.heap.size + 1 + 1, 0, none⟩ = some (.int .i64 q.a) ∧ v.cell? ⟨w.heap.size + 1 + 1, 1, none⟩ = some (.int .i64 q.b) ∧ v.cell? ⟨w.heap.size + 1 + 1, 2, none⟩ = some (.int .i64 q.c) ∧ v.cell? ⟨w.heap.size + 1 + 1, 3, none⟩ = some (.int .i64 q.d)) → ((v.setCell ⟨w.heap.size + 1 + 1 + 1 + 1 + 1 + 1, o, none⟩ u).cell? ⟨w.heap.size + 1 + 1, 0, none⟩ = some (.int .i64 q.a) ∧ (v.setCell ⟨w.heap.size + 1 + 1 + 1 + 1 + 1 + 1, o, none⟩ u).cell? ⟨w.heap.size + 1 + 1, 1, none⟩ = some (.int .i64 q.b) ∧ (v.setCell ⟨w.heap.size + 1 + 1 + 1 + 1 + 1 + 1, o, none⟩ u).cell? ⟨w.heap.size + 1 + 1, 2, none⟩ = some (.int .i64 q.c) ∧ (v.setCell ⟨w.heap.size + 1 + 1 + 1 + 1 + 1 + 1, o, none⟩ u).cell? ⟨w.heap.size + 1 + 1, 3, none⟩ = some (.int .i64 q.d))) := fun v o u h => by
      have e : ∀ k j, k ≠ w.heap.size + 1 + 1 + 1 + 1 + 1 + 1 → (v.setCell ⟨w.heap.size + 1 + 1 + 1 + 1 + 1 + 1, o, none⟩ u).cell? ⟨k, j, none⟩ = v.cell? ⟨k, j, none⟩ := fun k j hk => World.cell?_setCell_other _ _ _ _ (fun e => hk (congrArg Addr.block e).symm)
      rw [e _ _ (by omega), e _ _ (by omega), e _ _ (by omega), e _ _ (by omega)]; exact h
     have hcsd : wA.drew.cell? ⟨w.heap.size + 1 + 1 + 1 + 1 + 1 + 1, 0, none⟩ = some (.int .i64 s.qx) ∧ wA.drew.cell? ⟨w.heap.size + 1 + 1 + 1 + 1 + 1 + 1, 1, none⟩ = some (.int .i64 s.qy) ∧ wA.drew.frozen? ⟨w.heap.size + 1 + 1 + 1 + 1 + 1 + 1, 0, none⟩ = false ∧ wA.drew.frozen? ⟨w.heap.size + 1 + 1 + 1 + 1 + 1 + 1, 1, none⟩ = false := ⟨(HKA.out.step gd).q'.cell 0 (by simp), (HKA.out.step gd).q'.cell 1 (by simp), (HKA.out.step gd).q'.free 0, (HKA.out.step gd).q'.free 1⟩
     go_wp2
     refine wp_region_noPanic ?_
     refine wp_region_held_drew (S := (fun w' => w'.cell? ⟨w.heap.size + 1 + 1, 0, none⟩ = some (.int .i64 q.a) ∧ w'.cell? ⟨w.heap.size + 1 + 1, 1, none⟩ = some (.int .i64 q.b) ∧ w'.cell? ⟨w.heap.size + 1 + 1, 2, none⟩ = some (.int .i64 q.c) ∧ w'.cell? ⟨w.heap.size + 1 + 1, 3, none⟩ = some (.int .i64 q.d))) (by kernel_rfl) (HS0.out _ gd) (fun hHeld => ?_)
     generalize wA.drew = wD at hcsd gd hHeld ⊢
     refine tk 0 hHeld ?_; refine tk 2 hHeld ?_; refine tk 3 hHeld ?_; refine tk 4 hHeld ?_; refine tk 5 hHeld ?_; refine tk 6 hHeld ?_
     refine tk 7 hHeld ?_; refine tk 9 hHeld ?_; refine tk 11 hHeld ?_; refine tk 12 hHeld ?_; refine tk 13 hHeld ?_
     refine tk 14 hHeld ?_; refine tk 15 hHeld ?_; refine tk 16 hHeld ?_
     refine rd2 1 10 (fun K hK => ?_) (fun K hK => ?_)
     ·go_simp
      refine hK.out _ _ (hHeld) ?_; clear hK K hHeld; intro hHeld
      try simp only [Act.put, List.setIfInBounds_toArray, List.set_cons_zero, List.set_cons_succ]
      refine rd2 8 10 (fun K hK => ?_) (fun K hK => ?_)
      ·go_simp
       refine (m3 _).mono ?_
       rintro r w' ⟨rfl, rfl⟩
       go_wp2_with fail
       refine hK.out _ _ (hHeld) ?_; clear hK K hHeld; intro hHeld
       try simp only [Act.put, List.setIfInBounds_toArray, List.set_cons_zero, List.set_cons_succ]
       refine rd1 10 (fun K hK => ?_)
       go_simp
       refine hK.out _ _ (hHeld) ?_; clear hK K hHeld; intro hHeld
       try simp only [Act.put, List.setIfInBounds_toArray, List.set_cons_zero, List.set_cons_succ]
       refine rd1 17 (fun K hK => ?_)
       go_simp
       refine (m4 _).mono ?_
       rintro r w' ⟨rfl, rfl⟩
       go_wp2_with fail
       refine hK.out _ _ (hHeld) ?_; clear hK K hHeld; intro hHeld
       try simp only [Act.put, List.setIfInBounds_toArray, List.set_cons_zero, List.set_cons_succ]
       refine tk 18 hHeld ?_
       refine rd1 19 (fun K hK => ?_)
       go_simp
       refine hK.out _ _ (HSs.out _ _ _ (HSs.out _ _ _ hHeld)) ?_; clear hK K hHeld; intro hHeld
       try simp only [Act.put, List.setIfInBounds_toArray, List.set_cons_zero, List.set_cons_succ]
       refine wpAnyH_done (by kernel_rfl) ?_ _
       refine NoPanic.normal ?_
       go_wp2_with fail
       go_meet
       exact (HKA.out.step gd).setQ t3 t4
      ·go_simp
       refine hK.out _ _ (hHeld) ?_; clear hK K hHeld; intro hHeld
       try simp only [Act.put, List.setIfInBounds_toArray, List.set_cons_zero, List.set_cons_succ]
       refine rd1 8 (fun K hK => ?_)
       go_simp
       refine (m3 _).mono ?_
       rintro r w' ⟨rfl, rfl⟩
       go_wp2_with fail
       refine hK.out _ _ (hHeld) ?_; clear hK K hHeld; intro hHeld
       try simp only [Act.put, List.setIfInBounds_toArray, List.set_cons_zero, List.set_cons_succ]
       refine rd1 17 (fun K hK => ?_)
       go_simp
       refine (m4 _).mono ?_
       rintro r w' ⟨rfl, rfl⟩
       go_wp2_with fail
       refine hK.out _ _ (hHeld) ?_; clear hK K hHeld; intro hHeld
       try simp only [Act.put, List.setIfInBounds_toArray, List.set_cons_zero, List.set_cons_succ]
       refine tk 18 hHeld ?_
       refine rd1 19 (fun K hK => ?_)
       go_simp
       refine hK.out _ _ (HSs.out _ _ _ (HSs.out _ _ _ hHeld)) ?_; clear hK K hHeld; intro hHeld
       try simp only [Act.put, List.setIfInBounds_toArray, List.set_cons_zero, List.set_cons_succ]
       refine wpAnyH_done (by kernel_rfl) ?_ _
       refine NoPanic.normal ?_
       go_wp2_with fail
       go_meet
       exact (HKA.out.step gd).setQ t3 t4
     ·go_simp
      refine hK.out _ _ (hHeld) ?_; clear hK K hHeld; intro hHeld
      try simp only [Act.put, List.setIfInBounds_toArray, List.set_cons_zero, List.set_cons_succ]
      refine rd1 1 (fun K hK => ?_)
      go_simp
      refine hK.out _ _ (hHeld) ?_; clear hK K hHeld; intro hHeld
      try simp only [Act.put, List.setIfInBounds_toArray, List.set_cons_zero, List.set_cons_succ]
      refine rd1 8 (fun K hK => ?_)
      go_simp
      refine (m3 _).mono ?_
      rintro r w' ⟨rfl, rfl⟩
      go_wp2_with fail
      refine hK.out _ _ (hHeld) ?_; clear hK K hHeld; intro hHeld
      try simp only [Act.put, List.setIfInBounds_toArray, List.set_cons_zero, List.set_cons_succ]
      refine rd1 17 (fun K hK => ?_)
      go_simp
      refine (m4 _).mono ?_
      rintro r w' ⟨rfl, rfl⟩
      go_wp2_with fail
      refine hK.out _ _ (hHeld) ?_; clear hK K hHeld; intro hHeld
      try simp only [Act.put, List.setIfInBounds_toArray, List.set_cons_zero, List.set_cons_succ]
      refine tk 18 hHeld ?_
      refine rd1 19 (fun K hK => ?_)
      go_simp
      refine hK.out _ _ (HSs.out _ _ _ (HSs.out _ _ _ hHeld)) ?_; clear hK K hHeld; intro hHeld
      try simp only [Act.put, List.setIfInBounds_toArray, List.set_cons_zero, List.set_cons_succ]
      refine wpAnyH_done (by kernel_rfl) ?_ _
      refine NoPanic.normal ?_
      go_wp2_with fail
      go_meet
      exact (HKA.out.step gd).setQ t3 t4
    case rest =>
     have Hk : Hid (PV w q ax ay bx b_y wc ⟨t1, t2, t3, t4⟩) := hcut
     clear hcut HKA m1 m2 m3 m4
     obtain ⟨wB, rfl⟩ : ∃ V, V = wc := ⟨_, rfl⟩
     have p0 := Hk.out.p.cell 0 (by simp)
     have p1 := Hk.out.p.cell 1 (by simp)
     have q0 := Hk.out.q'.cell 0 (by simp)
     have q1 := Hk.out.q'.cell 1 (by simp)
     have a0 := Hk.out.a.cell 0 (by simp)
     have a1 := Hk.out.a.cell 1 (by simp)
     have b0 := Hk.out.b.cell 0 (by simp)
     have b1 := Hk.out.b.cell 1 (by simp)
     have r0 := Hk.out.r0.cell 0 (by simp)
     have r1 := Hk.out.r0.cell 1 (by simp)
     have r2 := Hk.out.r1.cell 0 (by simp)
     have r3 := Hk.out.r1.cell 1 (by simp)
     have f0 := Hk.out.r0.free 0
     have f1 := Hk.out.r0.free 1
     have f2 := Hk.out.r1.free 0
     have f3 := Hk.out.r1.free 1
     simp only [List.getElem_cons_zero, List.getElem_cons_succ] at p0 p1 q0 q1 a0 a1 b0 b1 r0 r1 r2 r3
     obtain ⟨U, HU⟩ : ∃ U, Hid (U = ((((wB.setCell ⟨w.heap.size + 1 + 1 + 1, 0, none⟩ (.int .i64 t1)).setCell ⟨w.heap.size + 1 + 1 + 1, 1, none⟩ (.int .i64 t2)).setCell ⟨w.heap.size + 1 + 1 + 1 + 1, 0, none⟩ (.int .i64 t3)).setCell ⟨w.heap.size + 1 + 1 + 1 + 1, 1, none⟩ (.int .i64 t4)).drew) := ⟨_, (rfl : ((((wB.setCell ⟨w.heap.size + 1 + 1 + 1, 0, none⟩ (.int .i64 t1)).setCell ⟨w.heap.size + 1 + 1 + 1, 1, none⟩ (.int .i64 t2)).setCell ⟨w.heap.size + 1 + 1 + 1 + 1, 0, none⟩ (.int .i64 t3)).setCell ⟨w.heap.size + 1 + 1 + 1 + 1, 1, none⟩ (.int .i64 t4)).drew = _)⟩
     have Y0 : Blk U (w.heap.size + 1 + 1 + 1) [.int .i64 t1, .int .i64 t2] := by rw [HU.out]; exact ((((Hk.out.r0.set 0 _ (by simp)).set 1 _ (by simp)).far (by omega)).far (by omega)).bel (Bel.drew (Bel.refl _))
     have Y1 : Blk U (w.heap.size + 1 + 1 + 1 + 1) [.int .i64 t3, .int .i64 t4] := by rw [HU.out]; exact ((((Hk.out.r1.far (by omega)).far (by omega)).set 0 _ (by simp)).set 1 _ (by simp)).bel (Bel.drew (Bel.refl _))
     have hBU : Bel w U := by rw [HU.out]; exact Bel.drew (bel_set (bel_set (bel_set (bel_set Hk.out.bel (by show w.heap.size ≤ w.heap.size + 1 + 1 + 1; omega) _) (by show w.heap.size ≤ w.heap.size + 1 + 1 + 1; omega) _) (by show w.heap.size ≤ w.heap.size + 1 + 1 + 1 + 1; omega) _) (by show w.heap.size ≤ w.heap.size + 1 + 1 + 1 + 1; omega) _)
     have u0 := Y0.cell 0 (by simp)
     have u1 := Y0.cell 1 (by simp)
     have u2 := Y1.cell 0 (by simp)
     have u3 := Y1.cell 1 (by simp)
     simp only [List.getElem_cons_zero, List.getElem_cons_succ] at u0 u1 u2 u3
     clear Y0 Y1
     by_cases hab : ax = bx ∧ ay = b_y
     ·have heq : ∀ w, Sem.run Tryz.prog (binOp .eql 61 (.agg #[.int .i64 ax, .int .i64 ay]) (.agg #[.int .i64 bx, .int .i64 b_y])) w = .ok (.bool true) w := fun w => by rw [ptEq, pt_same hab]
      have HE : Hid (strC q ax ay bx b_y = some ⟨t1, t2, t3, t4⟩) := Hb.out.trans (if_neg fun h => h.2 hab)
      clear hab Hk
      go_wp2
      go_big_region
      go_wp2
      rw [← HU.out]
      exact bodyPost_ret (v := .tuple #[pt t1 t2, pt t3 t4, .bool true]) (by simp [results, Tryz.results47, go_sem, u0, u1, u2, u3]) rfl ⟨_, _, _, _, true, rfl, HE.out, hBU⟩
     ·have heq : ∀ w, Sem.run Tryz.prog (binOp .eql 61 (.agg #[.int .i64 ax, .int .i64 ay]) (.agg #[.int .i64 bx, .int .i64 b_y])) w = .ok (.bool false) w := fun w => by rw [ptEq, pt_diff hab]
      by_cases hpq : t1 = t3 ∧ t2 = t4
      ·have hne : ∀ w, Sem.run Tryz.prog (binOp .neq 61 (.agg #[.int .i64 t1, .int .i64 t2]) (.agg #[.int .i64 t3, .int .i64 t4])) w = .ok (.bool false) w := fun w => by rw [ptNe, pt_same hpq]; rfl
       have HE : Hid (strC q ax ay bx b_y = none) := Hb.out.trans (if_pos ⟨hpq, hab⟩)
       clear hpq hab Hk
       go_wp2
       go_big_region
       go_wp2
       rw [← HU.out]
       exact bodyPost_ret (v := .tuple #[pt t1 t2, pt t3 t4, .bool false]) (by simp [results, Tryz.results47, go_sem, u0, u1, u2, u3]) rfl ⟨_, _, _, _, false, rfl, HE.out, hBU⟩
      ·have hne : ∀ w, Sem.run Tryz.prog (binOp .neq 61 (.agg #[.int .i64 t1, .int .i64 t2]) (.agg #[.int .i64 t3, .int .i64 t4])) w = .ok (.bool true) w := fun w => by rw [ptNe, pt_diff hpq]; rfl
       have HE : Hid (strC q ax ay bx b_y = some ⟨t1, t2, t3, t4⟩) := Hb.out.trans (if_neg fun h => hpq h.1)
       clear hpq hab Hk
       go_wp2
       go_big_region
       go_wp2
       rw [← HU.out]
       exact bodyPost_ret (v := .tuple #[pt t1 t2, pt t3 t4, .bool true]) (by simp [results, Tryz.results47, go_sem, u0, u1, u2, u3]) rfl ⟨_, _, _, _, true, rfl, HE.out, hBU⟩
end Go.Proofs.YtldfcnlhjjiihaaGreat
