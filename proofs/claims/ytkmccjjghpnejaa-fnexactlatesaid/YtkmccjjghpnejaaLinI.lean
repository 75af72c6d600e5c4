/-
  Whether a timetable can be: what it asks, and the program's contracts.
-/
import Derived.Test.YtkmccjjghpnejaaLinO
import Derived.Test.YtkmccjjghpnejaaGphB
import Derived.Deep.DeepCutAuto
import Derived.Deep.RegionHeld3
namespace Go.Proofs.Ytkmccjjghpnejaa
open Go.RowKit Go.Maps

/-- The stop and the time of leaving ahead of a call. -/
def prevS (l : List CalD) : Nat → Int
 | 0 => -1
 | j + 1 => (l.getD j default).stop
def prevD (l : List CalD) : Nat → Int
 | 0 => 0
 | j + 1 => (l.getD j default).dep
/-- A call can follow one at this stop, which was left then. -/
def calB (n : Nat) (s t : Int) (d : CalD) : Bool := inN n d.stop && !decide (d.stop = s) && decide (t ≤ d.arr) && decide (d.arr ≤ d.dep) && decide (d.dep ≤ 1000000)
def calsP (n : Nat) (l : List CalD) : Prop := ∀ j (h : j < l.length), calB n (prevS l j) (prevD l j) l[j] = true
noncomputable def tripB (n : Nat) (d : TrpD) : Bool := valB d.line && decide (1 ≤ d.days) && decide (d.days ≤ 127) && decide (2 ≤ d.calls.length) && decide (d.calls.length ≤ 40) && bP (calsP n d.calls)
/-- Not below 0 and at most this. -/
def upToB (x m : Int) : Bool := decide (0 ≤ x) && decide (x ≤ m)
def walkB (n : Nat) (d : WlkD) : Bool := inN n d.fr && inN n d.tt && !decide (d.fr = d.tt) && upToB d.time 10000
noncomputable def linesB (g : LinesD) : Bool := decide (g.stops.length ≤ 200) && decide (g.trips.length ≤ 500) && decide (g.walks.length ≤ 300) && g.stops.all valB && g.trips.all (tripB g.stops.length) && g.walks.all (walkB g.stops.length)
theorem prevS_step {l : List CalD} {k : Nat} (h : k < l.length) : prevS l (k + 1) = l[k].stop := by simp [prevS, List.getD, h]
theorem prevD_step {l : List CalD} {k : Nat} (h : k < l.length) : prevD l (k + 1) = l[k].dep := by simp [prevD, List.getD, h]
theorem listB_no {α : Type} {p : α → Bool} {l : List α} {k : Nat} (h : k < l.length) (e : p l[k] = false) : l.all p = false := by
 rw [List.all_eq_false]; exact ⟨l[k], List.getElem_mem h, by rw [e]; simp⟩
theorem listB_yes {α : Type} {p : α → Bool} {l : List α} (h : ∀ i (hi : i < l.length), p l[i] = true) : l.all p = true := by
 rw [List.all_eq_true]; intro x hx; obtain ⟨i, hi, rfl⟩ := List.getElem_of_mem hx; exact h i hi
theorem valueOk_r (s : ByteArray) (r : Bool) (w : World) (hs : s.size ≤ maxLen) (h : valB s = r) :
  Calls Try.prog 55 #[.string s] w fun e w' => e = .returned (.bool r) ∧ w' = w := by
 subst h; exact valueOk_any s w hs
theorem l2ValueOk_r (s : ByteArray) (r : Bool) (w : World) (hs : s.size ≤ maxLen) (h : valB s = r) :
  Calls Try.prog 49 #[.string s] w fun e w' => e = .returned (.bool r) ∧ w' = w := by
 subst h; exact l2ValueOk_any s w hs
theorem ofUpTo_r (x m : Int) (r : Bool) (w : World) (h : upToB x m = r) :
  Calls Try.prog 66 #[.int .i64 x, .int .i64 m] w fun e w' => e = .returned (.bool r) ∧ w' = w := by
 by_cases h0 : 0 ≤ x
 ·by_cases h1 : x ≤ m
  ·obtain rfl : r = true := by rw [← h]; simp [upToB, h0, h1]
   clear h
   go_enter Try.func66, Try.ntmps66
   go_wp2
   go_ret
   exact ⟨rfl, rfl⟩
  ·obtain rfl : r = false := by rw [← h]; simp [upToB, h1]
   clear h
   go_enter Try.func66, Try.ntmps66
   go_wp2
   go_ret
   exact ⟨rfl, rfl⟩
 ·obtain rfl : r = false := by rw [← h]; simp [upToB, h0]
  clear h
  go_enter Try.func66, Try.ntmps66
  go_wp2
  go_ret
  exact ⟨rfl, rfl⟩

theorem inStr_r (i : Int) (a : Option Addr) (n c : Nat) (r : Bool) (w : World) (h : inN n i = r) :
  Calls Try.prog 96 #[.int .i64 i, .slice a n c] w fun e w' => e = .returned (.bool r) ∧ w' = w := by
 subst h
 by_cases h1 : 0 ≤ i
 ·by_cases h2 : i < n
  ·have HR : Hid (true = inN n i) := (inN_iff.2 ⟨h1, h2⟩).symm
   go_enter Try.func96, Try.ntmps96
   go_wp2
   go_ret
   exact ⟨ret_bl HR.out, rfl⟩
  ·have HR : Hid (false = inN n i) := (inN_not.2 fun h => h2 h.2).symm
   go_enter Try.func96, Try.ntmps96
   go_wp2
   go_ret
   exact ⟨ret_bl HR.out, rfl⟩
 ·have HR : Hid (false = inN n i) := (inN_not.2 fun h => h1 h.1).symm
  go_enter Try.func96, Try.ntmps96
  go_wp2
  go_ret
  exact ⟨ret_bl HR.out, rfl⟩

set_option maxRecDepth 100000 in
set_option maxHeartbeats 2000000 in
theorem walkOk_r (a0 : Option Addr) (n0 c0 : Nat) (a1 : Option Addr) (n1 c1 : Nat) (a2 : Option Addr) (n2 c2 : Nat) (d : WlkD) (r : Bool) (w : World) (h : walkB n0 d = r) :
  Calls Try.prog 59 #[(.agg #[.slice a0 n0 c0, .slice a1 n1 c1, .slice a2 n2 c2]), .agg #[.int .i64 d.fr, .int .i64 d.tt, .int .i64 d.time]] w fun e w' => e = .returned (.bool r) ∧ Bel w w' := by
 subst h
 have hB : Bel w ((w.alloc (.cells #[.slice a0 n0 c0, .slice a1 n1 c1, .slice a2 n2 c2] 49)).alloc (.cells #[.int .i64 d.fr, .int .i64 d.tt, .int .i64 d.time] 94)) := bel_alloc (bel_alloc (Bel.refl _) _) _
 rcases Bool.eq_false_or_eq_true (inN n0 d.fr) with k0 | k0
 rotate_left
 ·skip
  have HR : Hid (false = walkB n0 d) := (by unfold walkB; rw [k0] <;> simp : false = walkB n0 d)
  have q0 := fun w => inStr_r d.fr a0 n0 c0 _ w k0
  go_enter Try.func59, Try.ntmps59
  go_wp2_with (first | (go_at_call 96; with_reducible refine (q0 _).mono ?_; rintro e w' ⟨rfl, rfl⟩))
  go_ret
  first | exact ⟨ret_bl HR.out, hB⟩ | exact ⟨ret_bl (by rw [← HR.out]; simp; omega), hB⟩
 rcases Bool.eq_false_or_eq_true (inN n0 d.tt) with k1 | k1
 rotate_left
 ·skip
  have HR : Hid (false = walkB n0 d) := (by unfold walkB; rw [k0, k1] <;> simp : false = walkB n0 d)
  have q0 := fun w => inStr_r d.fr a0 n0 c0 _ w k0
  have q1 := fun w => inStr_r d.tt a0 n0 c0 _ w k1
  go_enter Try.func59, Try.ntmps59
  go_wp2_with (first | (go_at_call 96; with_reducible refine (q0 _).mono ?_; rintro e w' ⟨rfl, rfl⟩) | (go_at_call 96; with_reducible refine (q1 _).mono ?_; rintro e w' ⟨rfl, rfl⟩))
  go_ret
  first | exact ⟨ret_bl HR.out, hB⟩ | exact ⟨ret_bl (by rw [← HR.out]; simp; omega), hB⟩
 by_cases k2 : d.fr = d.tt
 ·have ek2 := decide_eq_true k2
  have HR : Hid (false = walkB n0 d) := (by unfold walkB; rw [k0, k1, ek2] <;> simp : false = walkB n0 d)
  clear ek2
  obtain ⟨fr, tt, tm⟩ := d
  dsimp only at k0 k1 k2 hB HR ⊢
  subst k2
  have q0 := fun w => inStr_r fr a0 n0 c0 _ w k0
  go_enter Try.func59, Try.ntmps59
  go_wp2_with (first | (go_at_call 96; with_reducible refine (q0 _).mono ?_; rintro e w' ⟨rfl, rfl⟩))
  go_ret
  first | exact ⟨ret_bl HR.out, hB⟩ | exact ⟨ret_bl (by rw [← HR.out]; simp; omega), hB⟩
 have ek2 := decide_eq_false k2
 rcases Bool.eq_false_or_eq_true (upToB d.time 10000) with k3 | k3
 rotate_left
 ·skip
  have HR : Hid (false = walkB n0 d) := (by unfold walkB; rw [k0, k1, ek2, k3] <;> simp : false = walkB n0 d)
  have q0 := fun w => inStr_r d.fr a0 n0 c0 _ w k0
  have q1 := fun w => inStr_r d.tt a0 n0 c0 _ w k1
  have q3 := fun w => ofUpTo_r d.time 10000 _ w k3
  go_enter Try.func59, Try.ntmps59
  go_wp2_with (first | (go_at_call 96; with_reducible refine (q0 _).mono ?_; rintro e w' ⟨rfl, rfl⟩) | (go_at_call 96; with_reducible refine (q1 _).mono ?_; rintro e w' ⟨rfl, rfl⟩) | (go_at_call 66; with_reducible refine (q3 _).mono ?_; rintro e w' ⟨rfl, rfl⟩))
  go_ret
  first | exact ⟨ret_bl HR.out, hB⟩ | exact ⟨ret_bl (by rw [← HR.out]; simp; omega), hB⟩
 have HR : Hid (true = walkB n0 d) := (by unfold walkB; rw [k0, k1, ek2, k3] <;> simp : true = walkB n0 d)
 have q0 := fun w => inStr_r d.fr a0 n0 c0 _ w k0
 have q1 := fun w => inStr_r d.tt a0 n0 c0 _ w k1
 have q3 := fun w => ofUpTo_r d.time 10000 _ w k3
 go_enter Try.func59, Try.ntmps59
 go_wp2_with (first | (go_at_call 96; with_reducible refine (q0 _).mono ?_; rintro e w' ⟨rfl, rfl⟩) | (go_at_call 96; with_reducible refine (q1 _).mono ?_; rintro e w' ⟨rfl, rfl⟩) | (go_at_call 66; with_reducible refine (q3 _).mono ?_; rintro e w' ⟨rfl, rfl⟩))
 go_ret
 first | exact ⟨ret_bl HR.out, hB⟩ | exact ⟨ret_bl (by rw [← HR.out]; simp; omega), hB⟩

set_option maxRecDepth 100000 in
set_option maxHeartbeats 4000000 in
theorem tripOk_r (a0 : Option Addr) (n0 c0 : Nat) (a1 : Option Addr) (n1 c1 : Nat) (a2 : Option Addr) (n2 c2 : Nat) (d : TrpD) (a : Option Addr) (nc c : Nat) (bs : List Nat) (r : Bool) (w : World) (hT : CalL w a d.calls bs) (hn : d.calls.length = nc) (hm : nc ≤ 1048576) (hz : d.line.size ≤ maxLen) (h : tripB n0 d = r) :
  Calls Try.prog 57 #[(.agg #[.slice a0 n0 c0, .slice a1 n1 c1, .slice a2 n2 c2]), .agg #[.string d.line, .int .i64 d.days, .slice a nc c]] w fun e w' => e = .returned (.bool r) ∧ Bel w w' := by
 have Hn : Hid (d.calls.length = nc) := hn
 have Hr : Hid (tripB n0 d = r) := h
 clear hn h
 have hB : Bel w ((w.alloc (.cells #[.slice a0 n0 c0, .slice a1 n1 c1, .slice a2 n2 c2] 49)).alloc (.cells #[.string d.line, .int .i64 d.days, .slice a nc c] 92)) := bel_alloc (bel_alloc (Bel.refl _) _) _
 have X0 : Blk ((w.alloc (.cells #[.slice a0 n0 c0, .slice a1 n1 c1, .slice a2 n2 c2] 49)).alloc (.cells #[.string d.line, .int .i64 d.days, .slice a nc c] 92)) w.heap.size [.slice a0 n0 c0, .slice a1 n1 c1, .slice a2 n2 c2] := (Blk.new w [.slice a0 n0 c0, .slice a1 n1 c1, .slice a2 n2 c2] 49).bel (bel_alloc (Bel.refl _) _)
 have Y0 : Blk ((w.alloc (.cells #[.slice a0 n0 c0, .slice a1 n1 c1, .slice a2 n2 c2] 49)).alloc (.cells #[.string d.line, .int .i64 d.days, .slice a nc c] 92)) (w.heap.size + 1) [.string d.line, .int .i64 d.days, .slice a nc c] := Blk.new1 w _ [.string d.line, .int .i64 d.days, .slice a nc c] 92
 rcases Bool.eq_false_or_eq_true (valB d.line) with k0 | k0
 ·skip
  by_cases k1 : 1 ≤ d.days
  ·have ek1 := decide_eq_true k1
   by_cases k2 : d.days ≤ 127
   ·have ek2 := decide_eq_true k2
    by_cases k3 : 2 ≤ nc
    ·have ek3 := decide_eq_true k3
     by_cases k4 : nc ≤ 40
     ·have ek4 := decide_eq_true k4
      have HA : Hid (bP (calsP n0 d.calls) = r) := (by rw [← Hr.out]; unfold tripB; rw [k0, ek1, ek2, Hn.out, ek3, ek4] <;> simp : bP (calsP n0 d.calls) = r)
      have q0 := fun w => valueOk_r d.line _ w hz k0
      have i3 : (2 : Int) ≤ nc := by omega
      have i4 : (nc : Int) ≤ 40 := by omega
      clear ek1 ek2 ek3 ek4
      go_enter Try.func57, Try.ntmps57
      go_wp2_with (go_at_call 55; with_reducible refine (q0 _).mono ?_; rintro e w' ⟨rfl, rfl⟩)
      go_loopw [7, 38] (fun _ i wr => ∃ (k : Nat) (x : Int), k ≤ nc ∧ i = .int .i64 k ∧ (∀ j (h : j < d.calls.length), j < k → calB n0 (prevS d.calls j) (prevD d.calls j) d.calls[j] = true) ∧ Blk wr w.heap.size [.slice a0 n0 c0, .slice a1 n1 c1, .slice a2 n2 c2] ∧ Blk wr (w.heap.size + 1) [.string d.line, .int .i64 d.days, .slice a nc c] ∧ Blk wr (w.heap.size + 2) [.int .i64 (prevS d.calls k), .int .i64 x, .int .i64 (prevD d.calls k)] ∧ Bel w wr) (fun _ i _ => nc - (intOf i).toNat)
      case atStart =>
       refine ⟨0, 0, Nat.zero_le _, rfl, fun j _ hj => absurd hj (Nat.not_lt_zero _), X0.bel (bel_alloc (Bel.refl _) _), Y0.bel (bel_alloc (Bel.refl _) _), ?_, bel_alloc hB _⟩
       exact Blk.new2 w _ _ [.int .i64 (-1), .int .i64 0, .int .i64 0] _
      case round =>
       obtain ⟨k, x, hk, rfl, hall, X, Y, A, hbel⟩ := hrel
       have H : Hid (∀ j (h : j < d.calls.length), j < k → calB n0 (prevS d.calls j) (prevD d.calls j) d.calls[j] = true) := hall
       clear hall
       obtain ⟨s, Hs⟩ : ∃ s, Hid (prevS d.calls k = s) := ⟨_, (rfl : prevS d.calls k = _)⟩
       obtain ⟨t, Ht⟩ : ∃ t, Hid (prevD d.calls k = t) := ⟨_, (rfl : prevD d.calls k = _)⟩
       rw [Hs.out, Ht.out] at A
       by_cases hlt : k < nc
       rotate_left
       ·have HT : Hid (true = r) := (by rw [← HA.out]; exact (bP_true fun i h => H.out i h (by rw [Hn.out] at h; omega)).symm : true = r)
        go_wp2
        go_ret
        exact ⟨ret_bl HT.out, hbel⟩
       have hkl : k < d.calls.length := by rw [Hn.out]; exact hlt
       obtain ⟨b, off, fb, rfl, hb, hx⟩ := (hT.bel calE hbel).out hkl
       obtain ⟨_, z0, z1, z2, c0', c1', c2'⟩ := hx k hkl
       obtain ⟨g, Hg⟩ : ∃ g, Hid (g = d.calls[k]) := ⟨_, (rfl : d.calls[k] = _)⟩
       rw [← Hg.out] at c0' c1' c2'
       clear hx hT z0 z1 z2 X0 Y0 hB
       have hlt' : (k : Int) < (nc : Int) := by omega
       obtain ⟨V, HV⟩ : ∃ V, Hid (V = wr.alloc (.cells #[.int .i64 g.stop, .int .i64 g.arr, .int .i64 g.dep] 108)) := ⟨_, (rfl : wr.alloc (.cells #[.int .i64 g.stop, .int .i64 g.arr, .int .i64 g.dep] 108) = _)⟩
       have hbV : Bel wr V := by rw [HV.out]; exact bel_alloc (Bel.refl _) _
       have C : Blk V wr.heap.size [.int .i64 g.stop, .int .i64 g.arr, .int .i64 g.dep] := by rw [HV.out]; exact Blk.new wr [.int .i64 g.stop, .int .i64 g.arr, .int .i64 g.dep] _
       have XV := X.bel hbV
       have YV := Y.bel hbV
       have AV := A.bel hbV
       have hsz := hbel.out.size
       have xl := X.lt
       have yl := Y.lt
       have al := A.lt
       have y2 : wr.cell? ⟨w.heap.size + 1, 2, none⟩ = some (.slice (some ⟨b, off, none⟩) nc c) := Y.cell 2 (by simp)
       rcases Bool.eq_false_or_eq_true (inN n0 g.stop) with m0 | m0
       ·skip
        by_cases m1 : g.stop = s
        ·have em1 := decide_eq_true m1
         have HF : Hid (false = r) := (by rw [← HA.out]; refine (bP_false fun h => ?_).symm; have := h k hkl; rw [← Hg.out, Hs.out, Ht.out] at this; unfold calB at this; rw [m0, em1] at this; simp at this : false = r)
         have q1 := fun w => inStr_r g.stop a0 n0 c0 _ w m0
         subst m1
         clear em1
         go_upto_region 7 with fail
         rw [← HV.out]
         have v0 : V.cell? ⟨wr.heap.size, 0, none⟩ = some (.int .i64 g.stop) := C.cell 0 (by simp)
         have v1 : V.cell? ⟨wr.heap.size, 1, none⟩ = some (.int .i64 g.arr) := C.cell 1 (by simp)
         have v2 : V.cell? ⟨wr.heap.size, 2, none⟩ = some (.int .i64 g.dep) := C.cell 2 (by simp)
         have x0 : V.cell? ⟨w.heap.size, 0, none⟩ = some (.slice a0 n0 c0) := XV.cell 0 (by simp)
         have u0 : V.cell? ⟨w.heap.size + 2, 0, none⟩ = some (.int .i64 g.stop) := AV.cell 0 (by simp)
         have u1 : V.cell? ⟨w.heap.size + 2, 1, none⟩ = some (.int .i64 x) := AV.cell 1 (by simp)
         have u2 : V.cell? ⟨w.heap.size + 2, 2, none⟩ = some (.int .i64 t) := AV.cell 2 (by simp)
         have cl := C.lt
         have af := AV.free
         have avl := AV.lt
         have xvl := XV.lt
         clear c0' c1' c2' y2
         go_wp2_with (go_at_call 96; with_reducible refine (q1 _).mono ?_; rintro e w' ⟨rfl, rfl⟩)
         go_ret
         exact ⟨ret_bl HF.out, bel_step hbel hbV⟩
        ·have em1 := decide_eq_false m1
         by_cases m2 : t ≤ g.arr
         ·have em2 := decide_eq_true m2
          by_cases m3 : g.arr ≤ g.dep
          ·have em3 := decide_eq_true m3
           by_cases m4 : g.dep ≤ 1000000
           ·have em4 := decide_eq_true m4
            have HC : Hid (calB n0 (prevS d.calls k) (prevD d.calls k) d.calls[k] = true) := (by rw [← Hg.out, Hs.out, Ht.out]; unfold calB; rw [m0, em1, em2, em3, em4] <;> simp : calB n0 (prevS d.calls k) (prevD d.calls k) d.calls[k] = true)
            have q1 := fun w => inStr_r g.stop a0 n0 c0 _ w m0
            clear em1 em2 em3 em4
            go_upto_region 7 with fail
            rw [← HV.out]
            have v0 : V.cell? ⟨wr.heap.size, 0, none⟩ = some (.int .i64 g.stop) := C.cell 0 (by simp)
            have v1 : V.cell? ⟨wr.heap.size, 1, none⟩ = some (.int .i64 g.arr) := C.cell 1 (by simp)
            have v2 : V.cell? ⟨wr.heap.size, 2, none⟩ = some (.int .i64 g.dep) := C.cell 2 (by simp)
            have x0 : V.cell? ⟨w.heap.size, 0, none⟩ = some (.slice a0 n0 c0) := XV.cell 0 (by simp)
            have u0 : V.cell? ⟨w.heap.size + 2, 0, none⟩ = some (.int .i64 s) := AV.cell 0 (by simp)
            have u1 : V.cell? ⟨w.heap.size + 2, 1, none⟩ = some (.int .i64 x) := AV.cell 1 (by simp)
            have u2 : V.cell? ⟨w.heap.size + 2, 2, none⟩ = some (.int .i64 t) := AV.cell 2 (by simp)
            have cl := C.lt
            have af := AV.free
            have avl := AV.lt
            have xvl := XV.lt
            clear c0' c1' c2' y2
            go_wp2_with (go_at_call 96; with_reducible refine (q1 _).mono ?_; rintro e w' ⟨rfl, rfl⟩)
            go_roundw
            case rel =>
             refine ⟨k + 1, g.arr, by omega, by go_num, fun j h hj => by
                    (by_cases e : j = k)
                    ·subst e; exact HC.out
                    ·exact H.out j h (by omega), ?_, ?_, ?_, ?_⟩
             ·exact ((XV.far (by omega)).far (by omega)).far (by omega)
             ·exact ((YV.far (by omega)).far (by omega)).far (by omega)
             ·rw [prevS_step hkl, prevD_step hkl, ← Hg.out]
              exact ((AV.set 0 (.int .i64 g.stop) (by simp)).set 1 (.int .i64 g.arr) (by simp)).set 2 (.int .i64 g.dep) (by simp)
             ·exact bel_set (bel_set (bel_set (bel_step hbel hbV) (Nat.le_add_right _ 2) _) (Nat.le_add_right _ 2) _) (Nat.le_add_right _ 2) _
            case measure => simp [intOf]; omega
           ·have em4 := decide_eq_false m4
            have HF : Hid (false = r) := (by rw [← HA.out]; refine (bP_false fun h => ?_).symm; have := h k hkl; rw [← Hg.out, Hs.out, Ht.out] at this; unfold calB at this; rw [m0, em1, em2, em3, em4] at this; simp at this : false = r)
            have q1 := fun w => inStr_r g.stop a0 n0 c0 _ w m0
            clear em1 em2 em3 em4
            go_upto_region 7 with fail
            rw [← HV.out]
            have v0 : V.cell? ⟨wr.heap.size, 0, none⟩ = some (.int .i64 g.stop) := C.cell 0 (by simp)
            have v1 : V.cell? ⟨wr.heap.size, 1, none⟩ = some (.int .i64 g.arr) := C.cell 1 (by simp)
            have v2 : V.cell? ⟨wr.heap.size, 2, none⟩ = some (.int .i64 g.dep) := C.cell 2 (by simp)
            have x0 : V.cell? ⟨w.heap.size, 0, none⟩ = some (.slice a0 n0 c0) := XV.cell 0 (by simp)
            have u0 : V.cell? ⟨w.heap.size + 2, 0, none⟩ = some (.int .i64 s) := AV.cell 0 (by simp)
            have u1 : V.cell? ⟨w.heap.size + 2, 1, none⟩ = some (.int .i64 x) := AV.cell 1 (by simp)
            have u2 : V.cell? ⟨w.heap.size + 2, 2, none⟩ = some (.int .i64 t) := AV.cell 2 (by simp)
            have cl := C.lt
            have af := AV.free
            have avl := AV.lt
            have xvl := XV.lt
            clear c0' c1' c2' y2
            go_wp2_with (go_at_call 96; with_reducible refine (q1 _).mono ?_; rintro e w' ⟨rfl, rfl⟩)
            go_ret
            exact ⟨ret_bl HF.out, bel_step hbel hbV⟩
          ·have em3 := decide_eq_false m3
           have HF : Hid (false = r) := (by rw [← HA.out]; refine (bP_false fun h => ?_).symm; have := h k hkl; rw [← Hg.out, Hs.out, Ht.out] at this; unfold calB at this; rw [m0, em1, em2, em3] at this; simp at this : false = r)
           have q1 := fun w => inStr_r g.stop a0 n0 c0 _ w m0
           clear em1 em2 em3
           go_upto_region 7 with fail
           rw [← HV.out]
           have v0 : V.cell? ⟨wr.heap.size, 0, none⟩ = some (.int .i64 g.stop) := C.cell 0 (by simp)
           have v1 : V.cell? ⟨wr.heap.size, 1, none⟩ = some (.int .i64 g.arr) := C.cell 1 (by simp)
           have v2 : V.cell? ⟨wr.heap.size, 2, none⟩ = some (.int .i64 g.dep) := C.cell 2 (by simp)
           have x0 : V.cell? ⟨w.heap.size, 0, none⟩ = some (.slice a0 n0 c0) := XV.cell 0 (by simp)
           have u0 : V.cell? ⟨w.heap.size + 2, 0, none⟩ = some (.int .i64 s) := AV.cell 0 (by simp)
           have u1 : V.cell? ⟨w.heap.size + 2, 1, none⟩ = some (.int .i64 x) := AV.cell 1 (by simp)
           have u2 : V.cell? ⟨w.heap.size + 2, 2, none⟩ = some (.int .i64 t) := AV.cell 2 (by simp)
           have cl := C.lt
           have af := AV.free
           have avl := AV.lt
           have xvl := XV.lt
           clear c0' c1' c2' y2
           go_wp2_with (go_at_call 96; with_reducible refine (q1 _).mono ?_; rintro e w' ⟨rfl, rfl⟩)
           go_ret
           exact ⟨ret_bl HF.out, bel_step hbel hbV⟩
         ·have em2 := decide_eq_false m2
          have HF : Hid (false = r) := (by rw [← HA.out]; refine (bP_false fun h => ?_).symm; have := h k hkl; rw [← Hg.out, Hs.out, Ht.out] at this; unfold calB at this; rw [m0, em1, em2] at this; simp at this : false = r)
          have q1 := fun w => inStr_r g.stop a0 n0 c0 _ w m0
          clear em1 em2
          go_upto_region 7 with fail
          rw [← HV.out]
          have v0 : V.cell? ⟨wr.heap.size, 0, none⟩ = some (.int .i64 g.stop) := C.cell 0 (by simp)
          have v1 : V.cell? ⟨wr.heap.size, 1, none⟩ = some (.int .i64 g.arr) := C.cell 1 (by simp)
          have v2 : V.cell? ⟨wr.heap.size, 2, none⟩ = some (.int .i64 g.dep) := C.cell 2 (by simp)
          have x0 : V.cell? ⟨w.heap.size, 0, none⟩ = some (.slice a0 n0 c0) := XV.cell 0 (by simp)
          have u0 : V.cell? ⟨w.heap.size + 2, 0, none⟩ = some (.int .i64 s) := AV.cell 0 (by simp)
          have u1 : V.cell? ⟨w.heap.size + 2, 1, none⟩ = some (.int .i64 x) := AV.cell 1 (by simp)
          have u2 : V.cell? ⟨w.heap.size + 2, 2, none⟩ = some (.int .i64 t) := AV.cell 2 (by simp)
          have cl := C.lt
          have af := AV.free
          have avl := AV.lt
          have xvl := XV.lt
          clear c0' c1' c2' y2
          go_wp2_with (go_at_call 96; with_reducible refine (q1 _).mono ?_; rintro e w' ⟨rfl, rfl⟩)
          go_ret
          exact ⟨ret_bl HF.out, bel_step hbel hbV⟩
       ·skip
        have HF : Hid (false = r) := (by rw [← HA.out]; refine (bP_false fun h => ?_).symm; have := h k hkl; rw [← Hg.out, Hs.out, Ht.out] at this; unfold calB at this; rw [m0] at this; simp at this : false = r)
        have q1 := fun w => inStr_r g.stop a0 n0 c0 _ w m0
        go_upto_region 7 with fail
        rw [← HV.out]
        have v0 : V.cell? ⟨wr.heap.size, 0, none⟩ = some (.int .i64 g.stop) := C.cell 0 (by simp)
        have v1 : V.cell? ⟨wr.heap.size, 1, none⟩ = some (.int .i64 g.arr) := C.cell 1 (by simp)
        have v2 : V.cell? ⟨wr.heap.size, 2, none⟩ = some (.int .i64 g.dep) := C.cell 2 (by simp)
        have x0 : V.cell? ⟨w.heap.size, 0, none⟩ = some (.slice a0 n0 c0) := XV.cell 0 (by simp)
        have u0 : V.cell? ⟨w.heap.size + 2, 0, none⟩ = some (.int .i64 s) := AV.cell 0 (by simp)
        have u1 : V.cell? ⟨w.heap.size + 2, 1, none⟩ = some (.int .i64 x) := AV.cell 1 (by simp)
        have u2 : V.cell? ⟨w.heap.size + 2, 2, none⟩ = some (.int .i64 t) := AV.cell 2 (by simp)
        have cl := C.lt
        have af := AV.free
        have avl := AV.lt
        have xvl := XV.lt
        clear c0' c1' c2' y2
        go_wp2_with (go_at_call 96; with_reducible refine (q1 _).mono ?_; rintro e w' ⟨rfl, rfl⟩)
        go_ret
        exact ⟨ret_bl HF.out, bel_step hbel hbV⟩
     ·have ek4 := decide_eq_false k4
      have HR : Hid (false = r) := (by rw [← Hr.out]; unfold tripB; rw [k0, ek1, ek2, Hn.out, ek3, ek4] <;> simp : false = r)
      have q0 := fun w => valueOk_r d.line _ w hz k0
      have i3 : (2 : Int) ≤ nc := by omega
      have i4 : ¬ (nc : Int) ≤ 40 := by omega
      clear ek1 ek2 ek3 ek4
      go_enter Try.func57, Try.ntmps57
      go_wp2_with (go_at_call 55; with_reducible refine (q0 _).mono ?_; rintro e w' ⟨rfl, rfl⟩)
      go_ret
      first | exact ⟨ret_bl HR.out, hB⟩ | exact ⟨ret_bl (by rw [← HR.out]; simp; omega), hB⟩
    ·have ek3 := decide_eq_false k3
     have HR : Hid (false = r) := (by rw [← Hr.out]; unfold tripB; rw [k0, ek1, ek2, Hn.out, ek3] <;> simp : false = r)
     have q0 := fun w => valueOk_r d.line _ w hz k0
     have i3 : ¬ (2 : Int) ≤ nc := by omega
     clear ek1 ek2 ek3
     go_enter Try.func57, Try.ntmps57
     go_wp2_with (go_at_call 55; with_reducible refine (q0 _).mono ?_; rintro e w' ⟨rfl, rfl⟩)
     go_ret
     first | exact ⟨ret_bl HR.out, hB⟩ | exact ⟨ret_bl (by rw [← HR.out]; simp; omega), hB⟩
   ·have ek2 := decide_eq_false k2
    have HR : Hid (false = r) := (by rw [← Hr.out]; unfold tripB; rw [k0, ek1, ek2] <;> simp : false = r)
    have q0 := fun w => valueOk_r d.line _ w hz k0
    clear ek1 ek2
    go_enter Try.func57, Try.ntmps57
    go_wp2_with (go_at_call 55; with_reducible refine (q0 _).mono ?_; rintro e w' ⟨rfl, rfl⟩)
    go_ret
    first | exact ⟨ret_bl HR.out, hB⟩ | exact ⟨ret_bl (by rw [← HR.out]; simp; omega), hB⟩
  ·have ek1 := decide_eq_false k1
   have HR : Hid (false = r) := (by rw [← Hr.out]; unfold tripB; rw [k0, ek1] <;> simp : false = r)
   have q0 := fun w => valueOk_r d.line _ w hz k0
   clear ek1
   go_enter Try.func57, Try.ntmps57
   go_wp2_with (go_at_call 55; with_reducible refine (q0 _).mono ?_; rintro e w' ⟨rfl, rfl⟩)
   go_ret
   first | exact ⟨ret_bl HR.out, hB⟩ | exact ⟨ret_bl (by rw [← HR.out]; simp; omega), hB⟩
 ·skip
  have HR : Hid (false = r) := (by rw [← Hr.out]; unfold tripB; rw [k0] <;> simp : false = r)
  have q0 := fun w => valueOk_r d.line _ w hz k0
  go_enter Try.func57, Try.ntmps57
  go_wp2_with (go_at_call 55; with_reducible refine (q0 _).mono ?_; rintro e w' ⟨rfl, rfl⟩)
  go_ret
  first | exact ⟨ret_bl HR.out, hB⟩ | exact ⟨ret_bl (by rw [← HR.out]; simp; omega), hB⟩

end Go.Proofs.Ytkmccjjghpnejaa
