/-
  Contracts of Turn and of what it is made of, in the program and in its model: for every three points.
  Rows of points in memory: how they are read, copied and held against each other. For every row of at most 2 to the 20th points.
  Quantise in the program: whether all points lie in the box, each point's place, the whole. Contracts.
-/
import Derived.Test.YtldfcnlhjjiihaaGreatCA
import Derived.Deep.SlicePairs
import Derived.Deep.LoopGhost
import Derived.Test.YtldfcnlhjjiihaaGreatCC
import Derived.Test.YtldfcnlhjjiihaaGreatCD
import Derived.Deep.AppendLies
import Derived.BigRegion
namespace Go.Proofs.YtldfcnlhjjiihaaGreat
open Go.RowKit

end Go.Proofs.YtldfcnlhjjiihaaGreat

namespace Go.Proofs.YtldfcnlhjjiihaaGreat
open Go.RowKit

/-- The slice (a, n) holds the points (X i, Y i). -/
def Pts (w : World) (a : Option Addr) (n : Nat) (X Y : Nat → Int) : Prop :=
 n = 0 ∨ ∃ b off, a = some ⟨b, off, none⟩ ∧ b < w.heap.size ∧ ∀ i, i < n → w.cell? ⟨b, off + i * 2, none⟩ = some (.int .i64 (X i)) ∧ w.cell? ⟨b, off + i * 2 + 1, none⟩ = some (.int .i64 (Y i))

theorem Pts.bel {w w' : World} {a : Option Addr} {n : Nat} {X Y : Nat → Int} (h : Pts w a n X Y) (hb : Bel w w') : Pts w' a n X Y := by
 rcases h with h | ⟨b, off, h1, h2, h3⟩
 ·exact .inl h
 ·exact .inr ⟨b, off, h1, bel_lt hb h2, fun i hi => ⟨by rw [hb.out.cell (p := ⟨b, _, none⟩) h2]; exact (h3 i hi).1, by rw [hb.out.cell (p := ⟨b, _, none⟩) h2]; exact (h3 i hi).2⟩⟩

theorem setc_other {w : World} {B i j : Nat} {v : Value} (h : i ≠ j) : (w.setCell ⟨B, i, none⟩ v).cell? ⟨B, j, none⟩ = w.cell? ⟨B, j, none⟩ :=
 World.cell?_setCell_other _ _ _ _ (fun e => h (congrArg Addr.off e))
theorem setc_same {w : World} {p : Addr} {v u : Value} (h : w.cell? p = some u) : (w.setCell p v).cell? p = some v := World.cell?_setCell_same _ _ _ h

/-- A block of the call's own: room for n points, of which the first k are laid. -/
structure Row (w : World) (B n k : Nat) (X Y : Nat → Int) : Prop where
 lt : B < w.heap.size
 laid : ∀ i, i < k → w.cell? ⟨B, i * 2, none⟩ = some (.int .i64 (X i)) ∧ w.cell? ⟨B, i * 2 + 1, none⟩ = some (.int .i64 (Y i))
 there : ∀ j, j < n * 2 → ∃ v, w.cell? ⟨B, j, none⟩ = some v
 free : ∀ j, w.frozen? ⟨B, j, none⟩ = false

theorem Row.bel {w w' : World} {B n k : Nat} {X Y : Nat → Int} (h : Row w B n k X Y) (hb : Bel w w') : Row w' B n k X Y :=
 ⟨bel_lt hb h.lt, fun i hi => ⟨by rw [hb.out.cell (p := ⟨B, _, none⟩) h.lt]; exact (h.laid i hi).1, by rw [hb.out.cell (p := ⟨B, _, none⟩) h.lt]; exact (h.laid i hi).2⟩,
  fun j hj => by rw [hb.out.cell (p := ⟨B, _, none⟩) h.lt]; exact h.there j hj, fun j => by rw [hb.out.frozen (p := ⟨B, _, none⟩) h.lt]; exact h.free j⟩

theorem Row.put {w : World} {B n k : Nat} {X Y : Nat → Int} (h : Row w B n k X Y) (hk : k < n) :
  Row ((w.setCell ⟨B, k * 2, none⟩ (.int .i64 (X k))).setCell ⟨B, k * 2 + 1, none⟩ (.int .i64 (Y k))) B n (k + 1) X Y := by
 obtain ⟨v0, c0⟩ := h.there (k * 2) (by omega)
 obtain ⟨v1, c1⟩ := h.there (k * 2 + 1) (by omega)
 refine ⟨by simpa [World.setCell] using h.lt, ?_, ?_, fun j => by rw [World.frozen?_setCell, World.frozen?_setCell]; exact h.free j⟩
 ·intro i hi
  by_cases e : i = k
  ·subst e
   refine ⟨?_, ?_⟩
   ·rw [setc_other (by omega), setc_same c0]
   ·rw [setc_same (u := v1) (by rw [setc_other (by omega)]; exact c1)]
  ·have hi' : i < k := by omega
   refine ⟨?_, ?_⟩
   ·rw [setc_other (by omega), setc_other (by omega)]; exact (h.laid i hi').1
   ·rw [setc_other (by omega), setc_other (by omega)]; exact (h.laid i hi').2
 ·intro j hj
  by_cases e1 : j = k * 2 + 1
  ·subst e1; exact ⟨_, setc_same (u := v1) (by rw [setc_other (by omega)]; exact c1)⟩
  ·rw [setc_other (by omega)]
   by_cases e0 : j = k * 2
   ·subst e0; exact ⟨_, setc_same c0⟩
   ·rw [setc_other (by omega)]; exact h.there j hj

theorem Row.pts {w : World} {B n : Nat} {X Y : Nat → Int} (h : Row w B n n X Y) : Pts w (some ⟨B, 0, none⟩) n X Y :=
 .inr ⟨B, 0, rfl, h.lt, fun i hi => by simpa using h.laid i hi⟩

theorem Row.start (w : World) (zs : Array Value) (n : Nat) (e : TypeId) (X Y : Nat → Int) : Row (w.alloc (.cells (madeCells zs (n * 2)) e)) w.heap.size n 0 X Y := by
 refine ⟨by simp, fun i hi => absurd hi (Nat.not_lt_zero _), fun j hj => ?_, fun j => by simp⟩
 have hj' : j < (madeCells zs (n * 2)).size := by rw [size_madeCells]; exact hj
 exact ⟨_, by rw [World.cell?_alloc_new, Array.getElem?_eq_getElem hj']⟩

theorem eqPoint_same (x y : Int) (w : World) :
  Calls Tryz.prog 110 #[pt x y, pt x y] w fun e w' => e = .returned (.bool true) ∧ Bel w w' := by
 go_enter Tryz.func110, Tryz.ntmps110
 go_wp2
 go_ret
 exact ⟨rfl, bel_alloc (bel_alloc (Bel.refl _) _) _⟩

def rowB (n : Nat) (X Y : Nat → Int) : Bool := decide (n ≤ 2000) && (List.range n).all fun i => pok (X i) (Y i)
theorem rowB_true {n : Nat} {X Y : Nat → Int} (h : n ≤ 2000) (hp : ∀ i, i < n → pok (X i) (Y i) = true) : rowB n X Y = true := by
 simp only [rowB, Bool.and_eq_true, decide_eq_true_eq, List.all_eq_true, List.mem_range]
 exact ⟨h, hp⟩
theorem rowB_out {n : Nat} {X Y : Nat → Int} (h : rowB n X Y = true) : n ≤ 2000 ∧ ∀ i, i < n → POk (X i) (Y i) := by
 simp only [rowB, Bool.and_eq_true, decide_eq_true_eq, List.all_eq_true, List.mem_range] at h
 exact ⟨h.1, fun i hi => pOk_iff.1 (h.2 i hi)⟩
theorem rowB_big {n : Nat} {X Y : Nat → Int} (h : 2000 < n) : rowB n X Y = false := by
 simp [rowB, show ¬ n ≤ 2000 by omega]
theorem rowB_at {n k : Nat} {X Y : Nat → Int} (h : k < n) (hp : pok (X k) (Y k) = false) : rowB n X Y = false := by
 cases e : rowB n X Y with
 | false => rfl
 | true => have := pOk_iff.2 ((rowB_out e).2 k h); rw [hp] at this; cases this

theorem rowOk_any (a : Option Addr) (n c : Nat) (X Y : Nat → Int) (w : World) (hP : Pts w a n X Y) (hn : n ≤ 1048576) :
  Calls Tryz.prog 95 #[.slice a n c] w fun e w' => e = .returned (.bool (rowB n X Y)) ∧ Bel w w' := by
 by_cases hbig : 2000 < n
 ·rw [rowB_big hbig]
  go_enter Tryz.func95, Tryz.ntmps95
  go_wp2
  go_ret
  exact ⟨rfl, Bel.refl _⟩
 ·have hbig : n ≤ 2000 := by omega
  go_enter Tryz.func95, Tryz.ntmps95
  go_wp2
  go_loopw [10] (fun i wr => ∃ k : Nat, k ≤ n ∧ i = .int .i64 k ∧ (∀ j, j < k → pok (X j) (Y j) = true) ∧ Bel w wr) (fun i _ => n - (intOf i).toNat)
  case atStart => exact ⟨0, Nat.zero_le _, rfl, fun j hj => absurd hj (Nat.not_lt_zero _), Bel.refl _⟩
  case round =>
   obtain ⟨k, hk, rfl, hall, hbel⟩ := hrel
   by_cases hlt : k < n
   ·rcases hP.bel hbel with h | ⟨b, off, rfl, h2, h3⟩
    ·omega
    ·obtain ⟨cx, cy⟩ := h3 k hlt
     have H : Hid (∀ j, j < k → pok (X j) (Y j) = true) := hall
     clear h3 hall
     by_cases hp : pok (X k) (Y k) = true
     ·go_wp2_with fail
      refine (pointOk_any _ _ _).mono ?_
      rintro e w1 ⟨rfl, hb1⟩
      have hB1 : Bel w w1 := bel_step (bel_alloc hbel _) hb1
      clear cx cy h2 hb1 hbel
      go_wp2
      go_roundw
      case rel => exact ⟨k + 1, by omega, by go_num, fun j hj => by (by_cases e : j = k); (subst e; exact hp); exact H.out j (by omega), hB1⟩
      case measure => simp [intOf]; omega
     ·have hp : pok (X k) (Y k) = false := by simpa using hp
      have HF : Hid (false = rowB n X Y) := (rowB_at hlt hp).symm
      go_wp2_with fail
      refine (pointOk_any _ _ _).mono ?_
      rintro e w1 ⟨rfl, hb1⟩
      have hB1 : Bel w w1 := bel_step (bel_alloc hbel _) hb1
      clear cx cy h2 hb1 hbel
      go_wp2
      go_ret
      exact ⟨congrArg (fun b => Ending.returned (.bool b)) HF.out, hB1⟩
   ·have e : k = n := by omega
    subst e
    have HT : Hid (true = rowB k X Y) := (rowB_true hbig hall).symm
    clear hall
    go_wp2
    go_ret
    exact ⟨congrArg (fun b => Ending.returned (.bool b)) HT.out, hbel⟩

end Go.Proofs.YtldfcnlhjjiihaaGreat

namespace Go.Proofs.YtldfcnlhjjiihaaGreat
open Go.RowKit Go.Maps

/-- All points lie in the box. -/
def inB (q : BoxD) (n : Nat) (X Y : Nat → Int) : Bool := (List.range n).all fun i => ptB q (X i) (Y i)
theorem inB_true {q : BoxD} {n : Nat} {X Y : Nat → Int} (h : ∀ i, i < n → ptB q (X i) (Y i) = true) : inB q n X Y = true := by
 simp only [inB, List.all_eq_true, List.mem_range]; exact h
theorem inB_out {q : BoxD} {n : Nat} {X Y : Nat → Int} (h : inB q n X Y = true) : ∀ i, i < n → ptB q (X i) (Y i) = true := by
 simpa only [inB, List.all_eq_true, List.mem_range] using h
theorem inB_at {q : BoxD} {n k : Nat} {X Y : Nat → Int} (h : k < n) (hp : ptB q (X k) (Y k) = false) : inB q n X Y = false := by
 cases e : inB q n X Y with
 | false => rfl
 | true => have := inB_out e k h; rw [hp] at this; cases this

set_option maxHeartbeats 1000000 in
theorem allPt_any (a : Option Addr) (n c : Nat) (X Y : Nat → Int) (q : BoxD) (w : World) (hP : Pts w a n X Y) (hn : n ≤ 1048576) :
  Calls Tryz.prog 102 #[.slice a n c, .func (.func 103) #[bxv q] #[]] w fun e w' => e = .returned (.bool (inB q n X Y)) ∧ Bel w w' := by
 obtain ⟨r, Hr⟩ : ∃ r, Hid (inB q n X Y = r) := ⟨_, (rfl : inB q n X Y = _)⟩
 rw [Hr.out]
 go_enter Tryz.func102, Tryz.ntmps102
 go_wp2
 go_loopw [6, 9] (fun _ i wr => ∃ k : Nat, k ≤ n ∧ i = .int .i64 k ∧ (∀ j, j < k → ptB q (X j) (Y j) = true) ∧ Bel w wr) (fun _ i _ => n - (intOf i).toNat)
 case atStart => exact ⟨0, Nat.zero_le _, rfl, fun j hj => absurd hj (Nat.not_lt_zero _), Bel.refl _⟩
 case round =>
  obtain ⟨k, hk, rfl, hall, hbel⟩ := hrel
  by_cases hlt : k < n
  ·rcases hP.bel hbel with h | ⟨b, off, rfl, h2, h3⟩
   ·omega
   ·obtain ⟨cx, cy⟩ := h3 k hlt
    have H : Hid (∀ j, j < k → ptB q (X j) (Y j) = true) := hall
    clear h3 hall
    go_wp2_with fail
    refine (holds_any q _ _ _).mono ?_
    rintro e w1 ⟨rfl, hb1⟩
    have hB1 : Bel w w1 := bel_step (bel_alloc hbel _) hb1
    clear cx cy h2 hb1 hbel
    cases hp : ptB q (X k) (Y k)
    ·have HF : Hid (false = r) := by rw [← Hr.out]; exact (inB_at hlt hp).symm
     go_wp2
     go_ret
     exact ⟨ret_bl HF.out, hB1⟩
    ·have HT : Hid (ptB q (X k) (Y k) = true) := hp
     clear hp
     go_wp2
     go_roundw
     case rel => exact ⟨k + 1, by omega, by go_num, fun j hj => by (by_cases e : j = k); (subst e; exact HT.out); exact H.out j (by omega), hB1⟩
     case measure => simp [intOf]; omega
  ·have e : k = n := by omega
   subst e
   have HT : Hid (true = r) := by rw [← Hr.out]; exact (inB_true hall).symm
   clear hall
   go_wp2
   go_ret
   exact ⟨ret_bl HT.out, hbel⟩

/-- A place on the grid. -/
def qz (lo : Int) (s : Nat) (x : Int) : Int := (x - lo) * 4096 / (s : Int)
theorem qz_bd {lo x : Int} {s : Nat} (hs : 0 < s) (h0 : lo ≤ x) (h1 : x ≤ lo + s) : 0 ≤ qz lo s x ∧ qz lo s x ≤ 4096 := by
 unfold qz
 refine ⟨Int.ediv_nonneg (Int.mul_nonneg (by omega) (by decide)) (by omega), ?_⟩
 have : (x - lo) * 4096 / (s : Int) < 4097 := Int.ediv_lt_of_lt_mul (by omega) (by
  have : (x - lo) * 4096 ≤ (s : Int) * 4096 := Int.mul_le_mul_of_nonneg_right (by omega) (by decide)
  rw [Int.mul_comm 4097]
  omega)
 omega

theorem minus6_any (x0 y0 x1 y1 : Int) (w : World) (a : -20000000 ≤ x0 ∧ x0 ≤ 20000000 ∧ -20000000 ≤ y0 ∧ y0 ≤ 20000000) (b : -20000000 ≤ x1 ∧ x1 ≤ 20000000 ∧ -20000000 ≤ y1 ∧ y1 ≤ 20000000) :
  Calls Tryz.prog 106 #[pt x0 y0, pt x1 y1] w fun e w' => e = .returned (pt (x0 - x1) (y0 - y1)) ∧ Bel w w' := by
 obtain ⟨a1, a2, a3, a4⟩ := a
 obtain ⟨b1, b2, b3, b4⟩ := b
 go_enter Tryz.func106, Tryz.ntmps106
 go_wp2
 exact bodyPost_ret (v := pt (x0 - x1) (y0 - y1)) (by simp [results, Tryz.results106, go_sem]) rfl ⟨rfl, bel_alloc (bel_alloc (bel_alloc (Bel.refl _) _) _) _⟩

set_option maxRecDepth 100000 in
set_option maxHeartbeats 2000000 in
theorem place_any (x y : Int) (q : BoxD) (s : Nat) (B C : Nat) (w : World) (hB : Blk w B [.int .i64 q.a, .int .i64 q.b, .int .i64 q.c, .int .i64 q.d]) (hC : Blk w C [.int .i64 (s : Int)]) (hs : 0 < s) (hs2 : s ≤ 33554432)
  (h1 : -20000000 ≤ q.a ∧ q.a ≤ x ∧ x ≤ q.a + s ∧ x ≤ 20000000) (h2 : -20000000 ≤ q.b ∧ q.b ≤ y ∧ y ≤ q.b + s ∧ y ≤ 20000000) :
  Calls Tryz.prog 105 #[pt x y, .pointer (some ⟨B, 0, none⟩), .pointer (some ⟨C, 0, none⟩)] w fun e w' => e = .returned (pt (qz q.a s x) (qz q.b s y)) ∧ Bel w w' := by
 obtain ⟨W, HW⟩ : ∃ W, Hid (W = (w.alloc (.cells #[.int .i64 x, .int .i64 y] 61)).alloc (.cells #[.int .i64 0, .int .i64 0] 61)) := ⟨_, (rfl : (w.alloc (.cells #[.int .i64 x, .int .i64 y] 61)).alloc (.cells #[.int .i64 0, .int .i64 0] 61) = _)⟩
 have hBW : Bel w W := by rw [HW.out]; exact bel_alloc (bel_alloc (Bel.refl _) _) _
 have X1 : Blk W (w.heap.size + 1) [.int .i64 0, .int .i64 0] := by rw [HW.out]; exact Blk.new1 w _ [.int .i64 0, .int .i64 0] _
 have b0 := hB.cell 0 (by simp)
 have b1 := hB.cell 1 (by simp)
 simp only [List.getElem_cons_zero, List.getElem_cons_succ] at b0 b1
 have bl := hB.lt
 obtain ⟨g1, g2, g3, g4⟩ := h1
 obtain ⟨g5, g6, g7, g8⟩ := h2
 have q1 := qz_bd hs g2 g3
 have q2 := qz_bd hs g6 g7
 have e1 : ((x - q.a) * 4096).tdiv (s : Int) = qz q.a s x := Int.tdiv_eq_ediv_of_nonneg (Int.mul_nonneg (by omega) (by decide))
 have e2 : ((y - q.b) * 4096).tdiv (s : Int) = qz q.b s y := Int.tdiv_eq_ediv_of_nonneg (Int.mul_nonneg (by omega) (by decide))
 obtain ⟨u, Hu⟩ : ∃ u, Hid (qz q.a s x = u) := ⟨_, (rfl : qz q.a s x = _)⟩
 obtain ⟨v, Hv⟩ : ∃ u, Hid (qz q.b s y = u) := ⟨_, (rfl : qz q.b s y = _)⟩
 rw [Hu.out] at q1 e1; rw [Hv.out] at q2 e2
 rw [Hu.out, Hv.out]
 go_enter Tryz.func105, Tryz.ntmps105
 go_wp2_with fail
 rw [← HW.out]
 refine (minus6_any _ _ _ _ _ ⟨by omega, by omega, by omega, by omega⟩ ⟨by omega, by omega, by omega, by omega⟩).mono ?_
 rintro e w1 ⟨rfl, hb1⟩
 have hB1 := bel_step hBW hb1
 obtain ⟨p, Hp⟩ : ∃ p, Hid (x - q.a = p) := ⟨_, (rfl : x - q.a = _)⟩
 obtain ⟨r, Hr⟩ : ∃ p, Hid (y - q.b = p) := ⟨_, (rfl : y - q.b = _)⟩
 have p1 : 0 ≤ p ∧ p ≤ 33554432 := by have := Hp.out; omega
 have r1 : 0 ≤ r ∧ r ≤ 33554432 := by have := Hr.out; omega
 rw [Hp.out] at e1; rw [Hr.out] at e2
 rw [Hp.out, Hr.out]
 have hs0 : ¬ (s : Int) = 0 := by omega
 have hs1 : ¬ s = 0 := by omega
 have p2 := p1.1
 have p3 := p1.2
 have r2 := r1.1
 have r3 := r1.2
 obtain ⟨V, HV⟩ : ∃ V, Hid (V = w1.alloc (.cells #[.int .i64 p, .int .i64 r] 61)) := ⟨_, (rfl : w1.alloc (.cells #[.int .i64 p, .int .i64 r] 61) = _)⟩
 have hbV : Bel w1 V := by rw [HV.out]; exact bel_alloc (Bel.refl _) _
 have Z0 : Blk V w1.heap.size [.int .i64 p, .int .i64 r] := by rw [HV.out]; exact Blk.new w1 [.int .i64 p, .int .i64 r] _
 have Z1 := (X1.bel hb1).bel hbV
 have Z2 := (hC.bel hB1).bel hbV
 have hBV := bel_step hB1 hbV
 have n1 : w1.heap.size ≠ w.heap.size + 1 := by have := (X1.bel hb1).lt; omega
 have n2 : w.heap.size + 1 ≠ w1.heap.size := fun e => n1 e.symm
 have n3 : C ≠ w.heap.size + 1 := by have := hC.lt; omega
 have n4 : w.heap.size + 1 ≠ C := fun e => n3 e.symm
 clear X1 b0 b1 bl g1 g2 g3 g4 g5 g6 g7 g8 hB hC p1 r1 hb1 HW
 have c0 := Z0.cell 0 (by simp)
 have c1 := Z0.cell 1 (by simp)
 have d0 := Z1.cell 0 (by simp)
 have d1 := Z1.cell 1 (by simp)
 have f0 := Z1.free 0
 have f1 := Z1.free 1
 have k0 := Z2.cell 0 (by simp)
 simp only [List.getElem_cons_zero, List.getElem_cons_succ] at c0 c1 d0 d1 k0
 obtain ⟨U, HU⟩ : ∃ U, Hid (U = (V.setCell ⟨w.heap.size + 1, 0, none⟩ (.int .i64 u)).setCell ⟨w.heap.size + 1, 1, none⟩ (.int .i64 v)) := ⟨_, (rfl : (V.setCell ⟨w.heap.size + 1, 0, none⟩ (.int .i64 u)).setCell ⟨w.heap.size + 1, 1, none⟩ (.int .i64 v) = _)⟩
 have Y1 : Blk U (w.heap.size + 1) [.int .i64 u, .int .i64 v] := by rw [HU.out]; exact (Z1.set 0 _ (by simp)).set 1 _ (by simp)
 have hBU : Bel w U := by rw [HU.out]; exact bel_set (bel_set hBV (Nat.le_succ _) _) (Nat.le_succ _) _
 clear Z0 Z1 Z2
 go_wp2
 rw [← HV.out]
 go_big_region
 go_wp2
 rw [← HU.out]
 have Y2 := Y1.bel (Bel.drew (Bel.refl U))
 exact bodyPost_ret (v := pt u v) (by simp [results, Tryz.results105, go_sem, Y2.cell 0 (by simp), Y2.cell 1 (by simp)]) rfl ⟨rfl, Bel.drew hBU⟩

/-- The places of a row's points. -/
def qzT (q : BoxD) (s : Nat) (X Y : Nat → Int) (k : Nat) : List PtD := (List.range k).map fun i => ⟨qz q.a s (X i), qz q.b s (Y i)⟩
theorem qzT_len (q : BoxD) (s : Nat) (X Y : Nat → Int) (k : Nat) : (qzT q s X Y k).length = k := by simp [qzT]
theorem qzT_step (q : BoxD) (s : Nat) (X Y : Nat → Int) (k : Nat) : qzT q s X Y (k + 1) = qzT q s X Y k ++ [⟨qz q.a s (X k), qz q.b s (Y k)⟩] := by simp [qzT, List.range_succ]
/-- A point lies in the square of side s at the box's low corner. -/
def Sqr (q : BoxD) (s : Nat) (x y : Int) : Prop := (-20000000 ≤ q.a ∧ q.a ≤ x ∧ x ≤ q.a + s ∧ x ≤ 20000000) ∧ (-20000000 ≤ q.b ∧ q.b ≤ y ∧ y ≤ q.b + s ∧ y ≤ 20000000)

set_option maxRecDepth 100000 in
set_option maxHeartbeats 4000000 in
theorem eachPt_any (a : Option Addr) (n c : Nat) (X Y : Nat → Int) (q : BoxD) (s B C : Nat) (w : World) (hP : Pts w a n X Y) (hB : Blk w B [.int .i64 q.a, .int .i64 q.b, .int .i64 q.c, .int .i64 q.d]) (hC : Blk w C [.int .i64 (s : Int)]) (hs : 0 < s) (hs2 : s ≤ 33554432)
  (hin : ∀ i, i < n → Sqr q s (X i) (Y i)) (hn : n ≤ 1048576) :
  Calls Tryz.prog 104 #[.slice a n c, .func (.func 105) #[] #[.pointer (some ⟨B, 0, none⟩), .pointer (some ⟨C, 0, none⟩)]] w fun e w' => ∃ v R, e = .returned v ∧ GrP w.heap.size w' v (qzT q s X Y n) R ∧ Bel w w' := by
 obtain ⟨i0, hi0, hz0, hz1, hz2⟩ := info_parts infoPq
 have Hin : Hid (∀ i, i < n → Sqr q s (X i) (Y i)) := hin
 clear hin
 go_enter Tryz.func104, Tryz.ntmps104
 go_wp2
 go_loopw [5, 7, 10] (fun o _ i wr => ∃ (k : Nat) (R : Nat → List Value), k ≤ n ∧ i = .int .i64 k ∧ GrP w.heap.size wr o (qzT q s X Y k) R ∧ Bel w wr) (fun _ _ i _ => n - (intOf i).toNat)
 case atStart => exact ⟨0, _, Nat.zero_le _, rfl, Gr.nil 2 (flatV PqP pqCs) 61 _ _, Bel.refl _⟩
 case round =>
  obtain ⟨k, R, hk, rfl, hG, hBr⟩ := hrel
  obtain ⟨va, vc, rfl⟩ := own_shape hG.own
  have HLK : Hid ((qzT q s X Y k).length = k) := qzT_len _ _ _ _ _
  have HG : Hid (GrP w.heap.size wr (.slice va (qzT q s X Y k).length vc) (qzT q s X Y k) R) := hG
  clear hG
  by_cases hlt : k < n
  ·rcases hP.bel hBr with h | ⟨b, off, rfl, h2, h3⟩
   ·omega
   obtain ⟨cx, cy⟩ := h3 k hlt
   have HE : Hid (qzT q s X Y (k + 1) = qzT q s X Y k ++ [⟨qz q.a s (X k), qz q.b s (Y k)⟩]) := qzT_step _ _ _ _ _
   obtain ⟨g1, g2⟩ := Hin.out k hlt
   have u1 := qz_bd hs g1.2.1 g1.2.2.1
   have u2 := qz_bd hs g2.2.1 g2.2.2.1
   have cP := fun w' (h : Bel w w') => place_any (X k) (Y k) q s B C w' (hB.bel h) (hC.bel h) hs hs2 g1 g2
   obtain ⟨x, Hx⟩ : ∃ x, Hid (X k = x) := ⟨_, (rfl : X k = _)⟩
   obtain ⟨y, Hy⟩ : ∃ x, Hid (Y k = x) := ⟨_, (rfl : Y k = _)⟩
   rw [Hx.out] at cx cP HE u1; rw [Hy.out] at cy cP HE u2
   obtain ⟨u, Hu⟩ : ∃ u, Hid (qz q.a s x = u) := ⟨_, (rfl : qz q.a s x = _)⟩
   obtain ⟨v, Hv⟩ : ∃ u, Hid (qz q.b s y = u) := ⟨_, (rfl : qz q.b s y = _)⟩
   rw [Hu.out, Hv.out] at cP HE
   rw [Hu.out] at u1; rw [Hv.out] at u2
   have hlt' : (k : Int) < (n : Int) := by omega
   have hV1 : Bel w (wr.alloc (.cells #[.int .i64 x, .int .i64 y] 61)) := bel_alloc hBr _
   clear h3 g1 g2
   go_wp2_with fail
   refine (cP _ hV1).mono ?_
   rintro e w4 ⟨rfl, hb4⟩
   have h04 : Bel wr w4 := bel_step (bel_alloc (Bel.refl _) _) hb4
   have hown2 := World.ownsRow.alloc (own_bel HG.out.own h04) (.cells #[.int .i64 u, .int .i64 v] 61)
   have hBa := bel_alloc (bel_step hBr h04) (.cells #[.int .i64 u, .int .i64 v] 61)
   have hB4 := bel_step hBr h04
   clear cx cy hb4 cP hV1
   go_wp2_with (first
    | (at_builtin; refine wpList_append_lies _ rfl _ _ 54 rfl w.heap.size 61 i0 (.agg #[.int .i64 0, .int .i64 0]) 2 16 Tryz.underlying54 hi0 hz0 hz1 hz2 rfl (by decide) _ _ _ rfl hown2 ⟨w4.heap.size, 0, none⟩ 1 1 [.int .i64 u, .int .i64 v] rfl rfl ?c1 ?c2 (by decide) ?c3 ?c4 ?c5 (w4.heap.size + 1) ?c6 ?_)
    | go_in)
   case c1 =>
    intro j u hj
    match j, hj with
    | 0, hj => simp at hj; subst hj; simp [Addr.add]
    | 1, hj => simp at hj; subst hj; simp [Addr.add]
   case c2 =>
    intro u hu
    simp at hu
    rcases hu with rfl | rfl <;> rfl
   case c3 => have := HLK.out; unfold maxLen; omega
   case c4 => have := HLK.out; omega
   case c5 => have := hB4.out.size; simp; omega
   case c6 => simp
   intro g cap w5 hown' hgrow hat _
   have HG5 : Hid (∃ R', GrP w.heap.size w5 (.slice (some ⟨g, 0, none⟩) ((qzT q s X Y k).length + 1) cap) (qzT q s X Y (k + 1)) R') := by
    have hat' : (Value.slice va (qzT q s X Y k).length vc).ownBlock = some g ∨ g = (w4.alloc (.cells #[.int .i64 u, .int .i64 v] 61)).heap.size := by simpa using hat
    have := Gr.add1 pqF (d := ⟨u, v⟩) HG.out (bel_alloc h04 (.cells #[.int .i64 u, .int .i64 v] 61)) ⟨⟨by show _ ≤ u; omega, by show u ≤ _; omega⟩, ⟨by show _ ≤ v; omega, by show v ≤ _; omega⟩⟩ hBr.out.size hown' hgrow (hatT hat')
    rw [HE.out]
    exact this
   have hB5 : Bel w w5 := bel_grow hBa hgrow (fun j e => (hown2.lt j e).1)
   clear hown' hgrow hown2 hBa HG hat h04 hB4
   go_wp2
   go_roundw
   case rel =>
    obtain ⟨R', G'⟩ := HG5.out
    exact ⟨k + 1, R', by omega, by go_num, G', hB5⟩
   case measure => simp [intOf]; omega
  ·obtain rfl : n = k := by omega
   go_wp2
   go_ret
   exact ⟨_, R, rfl, HG.out, hBr⟩
end Go.Proofs.YtldfcnlhjjiihaaGreat
