/-
  What the model draws: points and numbers; contracts that tell no more than the bounds.
-/
import Derived.Test.YtkmccjjghpnejaaCurC
namespace Go.Proofs.Ytkmccjjghpnejaa
open Go.RowKit

theorem Cur.far {w : World} {B : Nat} {a : Option Addr} {n c : Nat} (h : Cur w B a n c) {C : Nat} (hn : C ≠ B) (o : Nat) (u : Value) : Cur (w.setCell ⟨C, o, none⟩ u) B a n c := by
 have e : ∀ j, (w.setCell ⟨C, o, none⟩ u).cell? ⟨B, j, none⟩ = w.cell? ⟨B, j, none⟩ := fun j => World.cell?_setCell_other _ _ _ _ (fun e => hn (congrArg Addr.block e))
 exact ⟨by simpa [World.setCell] using h.lt, by rw [e]; exact h.c0, by rw [e]; exact h.c1, by rw [e]; exact h.c2, fun j => by rw [World.frozen?_setCell]; exact h.fr j⟩
theorem Drawn.far {w0 w : World} {B : Nat} {a : Option Addr} {n c : Nat} {v : World} (h : Drawn w0 w B a n c v) {C : Nat} (h0 : w0.heap.size ≤ C) (h1 : w.heap.size ≤ C) (hn : C ≠ B) (o : Nat) (u : Value) : Drawn w0 w B a n c (v.setCell ⟨C, o, none⟩ u) :=
 ⟨bel_set h.b h0 _, ⟨by simpa [World.setCell] using h.o.size, fun d i hd hB => by rw [World.cell?_setCell_other _ _ _ _ (fun e => by have := congrArg Addr.block e; simp at this; omega)]; exact h.o.cell d i hd hB, fun d i hd hB => by rw [World.frozen?_setCell]; exact h.o.froz d i hd hB, fun d hd hB => (Below.heap_setCell _ _ _ _ (by show d ≠ C; omega)).trans (h.o.obj d hd hB)⟩, h.k.far hn o u⟩
theorem Drawn.bel {w0 w : World} {B : Nat} {a : Option Addr} {n c : Nat} {v u : World} (h : Drawn w0 w B a n c v) (k : Bel v u) : Drawn w0 w B a n c u := ⟨bel_step h.b k, h.o.bel k, h.k.bel k⟩
theorem Drawn.from {w0 w W : World} {B : Nat} {a : Option Addr} {n c : Nat} {v : World} (h : Drawn w0 W B a n c v) (k : Bel w W) : Drawn w0 w B a n c v :=
 ⟨h.b, ⟨Nat.le_trans k.out.size h.o.size, fun d i hd hB => by rw [h.o.cell d i (Nat.lt_of_lt_of_le hd k.out.size) hB, k.out.cell (p := ⟨d, i, none⟩) hd], fun d i hd hB => by rw [h.o.froz d i (Nat.lt_of_lt_of_le hd k.out.size) hB, k.out.frozen (p := ⟨d, i, none⟩) hd], fun d hd hB => (h.o.obj d (Nat.lt_of_lt_of_le hd k.out.size) hB).trans (k.out.block d hd)⟩, h.k⟩

set_option maxRecDepth 100000 in
set_option maxHeartbeats 4000000 in
theorem drawPoint_any (B : Nat) (a : Option Addr) (n c : Nat) (w0 w : World) (hb : Bel w0 w) (hB : w0.heap.size ≤ B) (hC : Cur w B a n c) (hS : Bts w0 a n) (hn : n ≤ 1048576) :
  Calls Try.prog 103 #[.pointer (some ⟨B, 0, none⟩)] w fun e w' => ∃ x y : Int, e = .returned (pt x y) ∧ Drawn w0 w B a n c w' := by
 have hA : Bel w (w.alloc (.cells #[.int .i64 0, .int .i64 0] 31)) := bel_alloc (Bel.refl _) _
 have hlt : B < w.heap.size := hC.lt
 have z0 : (w.alloc (.cells #[.int .i64 0, .int .i64 0] 31)).cell? ⟨w.heap.size, 0, none⟩ = some (.int .i64 0) := by simp [go_sem]
 have z1 : (w.alloc (.cells #[.int .i64 0, .int .i64 0] 31)).cell? ⟨w.heap.size, 1, none⟩ = some (.int .i64 0) := by simp [go_sem]
 have zf : ∀ j, (w.alloc (.cells #[.int .i64 0, .int .i64 0] 31)).frozen? ⟨w.heap.size, j, none⟩ = false := fun j => by simp
 have zl : w.heap.size < (w.alloc (.cells #[.int .i64 0, .int .i64 0] 31)).heap.size := by simp
 have hb1 := bel_step hb hA
 have hC1 := hC.bel hA
 go_enter Try.func103, Try.ntmps103
 go_wp2_with fail
 refine (below_any B a n c w0 _ hb1 hB hC1 hS hn 41 (by decide) (by decide)).mono ?_
 rintro e w1 ⟨x, rfl, ⟨x0, x1⟩, d1⟩
 generalize w.alloc (.cells #[.int .i64 0, .int .i64 0] 31) = W at hA z0 z1 zf zl hb1 hC1 d1
 have D1 : Hid (Drawn w0 W B a n c w1) := d1
 clear d1
 go_wp2_with fail
 refine (below_any B a n c w0 _ D1.out.b hB D1.out.k hS hn 41 (by decide) (by decide)).mono ?_
 rintro e w2 ⟨y, rfl, ⟨y0, y1⟩, d2⟩
 have D2 : Hid (Drawn w0 W B a n c w2) := Drawn.then D1.out d2
 clear d2
 go_wp2_with fail
 refine (below_any B a n c w0 _ D2.out.b hB D2.out.k hS hn 12 (by decide) (by decide)).mono ?_
 rintro e w3 ⟨t, rfl, ⟨t0, t1⟩, d3⟩
 have D3 : Hid (Drawn w0 W B a n c w3) := Drawn.then D2.out d3
 clear d3 D1 D2
 have hw0 : w0.heap.size ≤ w.heap.size := hb.out.size
 have hRB : w.heap.size ≠ B := by omega
 rcases (show t = 0 ∨ t = 1 ∨ t = 2 ∨ 2 < t by omega) with rfl | rfl | rfl | ht
 case inl =>
  go_wp2_with fail
  generalize (x - 20) * 500000 = X
  generalize y - 20 = Y
  refine (once_any B a n c w0 _ D3.out.b hB D3.out.k hS hn 60 (by decide) (by decide)).mono ?_
  rintro e w4 ⟨tt, rfl, d4⟩
  have D4 : Hid (Drawn w0 W B a n c w4) := Drawn.then D3.out d4
  clear d4
  cases tt with
  | false =>
   have e0 := (D4.out.o.cell w.heap.size 0 zl hRB).trans z0
   have e1 := (D4.out.o.cell w.heap.size 1 zl hRB).trans z1
   have f0 := (D4.out.o.froz w.heap.size 0 zl hRB).trans (zf 0)
   have f1 := (D4.out.o.froz w.heap.size 1 zl hRB).trans (zf 1)
   go_wp2
   exact bodyPost_ret (v := pt X Y) (by simp [results, Try.results103, go_sem, e0, e1]) rfl ⟨_, _, rfl, (((D4.out.from hA).far hw0 (Nat.le_refl _) hRB _ _).far hw0 (Nat.le_refl _) hRB _ _)⟩
  | true =>
   have hA4 : Bel w4 (w4.alloc (.cells #[.int .i64 10000000, .int .i64 (-10000000), .int .i64 10000001, .int .i64 (-4611686018427387904)] 2)) := bel_alloc (Bel.refl _) _
   have hl4 : w4.heap.size < (w4.alloc (.cells #[.int .i64 10000000, .int .i64 (-10000000), .int .i64 10000001, .int .i64 (-4611686018427387904)] 2)).heap.size := by simp
   have hn4 : w4.heap.size ≠ B := by have := D4.out.k.lt; omega
   have l0 : (w4.alloc (.cells #[.int .i64 10000000, .int .i64 (-10000000), .int .i64 10000001, .int .i64 (-4611686018427387904)] 2)).cell? ⟨w4.heap.size, 0, none⟩ = some (.int .i64 10000000) := by simp [go_sem]
   have l1 : (w4.alloc (.cells #[.int .i64 10000000, .int .i64 (-10000000), .int .i64 10000001, .int .i64 (-4611686018427387904)] 2)).cell? ⟨w4.heap.size, 1, none⟩ = some (.int .i64 (-10000000)) := by simp [go_sem]
   have l2 : (w4.alloc (.cells #[.int .i64 10000000, .int .i64 (-10000000), .int .i64 10000001, .int .i64 (-4611686018427387904)] 2)).cell? ⟨w4.heap.size, 2, none⟩ = some (.int .i64 10000001) := by simp [go_sem]
   have l3 : (w4.alloc (.cells #[.int .i64 10000000, .int .i64 (-10000000), .int .i64 10000001, .int .i64 (-4611686018427387904)] 2)).cell? ⟨w4.heap.size, 3, none⟩ = some (.int .i64 (-4611686018427387904)) := by simp [go_sem]
   go_wp2_with fail
   refine (below_any B a n c w0 _ (bel_step D4.out.b hA4) hB (D4.out.k.bel hA4) hS hn 4 (by decide) (by decide)).mono ?_
   rintro e w5 ⟨r, rfl, ⟨r0, r1⟩, d5⟩
   have l0 := (d5.o.cell w4.heap.size 0 hl4 hn4).trans l0
   have l1 := (d5.o.cell w4.heap.size 1 hl4 hn4).trans l1
   have l2 := (d5.o.cell w4.heap.size 2 hl4 hn4).trans l2
   have l3 := (d5.o.cell w4.heap.size 3 hl4 hn4).trans l3
   have D5 : Hid (Drawn w0 W B a n c w5) := Drawn.then (D4.out.bel hA4) d5
   clear d5 hA4 hl4
   rcases (show r = 0 ∨ r = 1 ∨ r = 2 ∨ r = 3 by omega) with rfl | rfl | rfl | rfl
   ·have e0 := (D5.out.o.cell w.heap.size 0 zl hRB).trans z0
    have e1 := (D5.out.o.cell w.heap.size 1 zl hRB).trans z1
    have f0 := (D5.out.o.froz w.heap.size 0 zl hRB).trans (zf 0)
    have f1 := (D5.out.o.froz w.heap.size 1 zl hRB).trans (zf 1)
    go_wp2
    exact bodyPost_ret (v := pt 10000000 Y) (by simp [results, Try.results103, go_sem, e0, e1]) rfl ⟨_, _, rfl, (((D5.out.from hA).far hw0 (Nat.le_refl _) hRB _ _).far hw0 (Nat.le_refl _) hRB _ _)⟩
   ·have e0 := (D5.out.o.cell w.heap.size 0 zl hRB).trans z0
    have e1 := (D5.out.o.cell w.heap.size 1 zl hRB).trans z1
    have f0 := (D5.out.o.froz w.heap.size 0 zl hRB).trans (zf 0)
    have f1 := (D5.out.o.froz w.heap.size 1 zl hRB).trans (zf 1)
    go_wp2
    exact bodyPost_ret (v := pt (-10000000) Y) (by simp [results, Try.results103, go_sem, e0, e1]) rfl ⟨_, _, rfl, (((D5.out.from hA).far hw0 (Nat.le_refl _) hRB _ _).far hw0 (Nat.le_refl _) hRB _ _)⟩
   ·have e0 := (D5.out.o.cell w.heap.size 0 zl hRB).trans z0
    have e1 := (D5.out.o.cell w.heap.size 1 zl hRB).trans z1
    have f0 := (D5.out.o.froz w.heap.size 0 zl hRB).trans (zf 0)
    have f1 := (D5.out.o.froz w.heap.size 1 zl hRB).trans (zf 1)
    go_wp2
    exact bodyPost_ret (v := pt 10000001 Y) (by simp [results, Try.results103, go_sem, e0, e1]) rfl ⟨_, _, rfl, (((D5.out.from hA).far hw0 (Nat.le_refl _) hRB _ _).far hw0 (Nat.le_refl _) hRB _ _)⟩
   ·have e0 := (D5.out.o.cell w.heap.size 0 zl hRB).trans z0
    have e1 := (D5.out.o.cell w.heap.size 1 zl hRB).trans z1
    have f0 := (D5.out.o.froz w.heap.size 0 zl hRB).trans (zf 0)
    have f1 := (D5.out.o.froz w.heap.size 1 zl hRB).trans (zf 1)
    go_wp2
    exact bodyPost_ret (v := pt (-4611686018427387904) Y) (by simp [results, Try.results103, go_sem, e0, e1]) rfl ⟨_, _, rfl, (((D5.out.from hA).far hw0 (Nat.le_refl _) hRB _ _).far hw0 (Nat.le_refl _) hRB _ _)⟩
 case inr.inl =>
  go_wp2_with fail
  generalize x - 20 = X
  generalize (y - 20) * 500000 = Y
  refine (once_any B a n c w0 _ D3.out.b hB D3.out.k hS hn 60 (by decide) (by decide)).mono ?_
  rintro e w4 ⟨tt, rfl, d4⟩
  have D4 : Hid (Drawn w0 W B a n c w4) := Drawn.then D3.out d4
  clear d4
  cases tt with
  | false =>
   have e0 := (D4.out.o.cell w.heap.size 0 zl hRB).trans z0
   have e1 := (D4.out.o.cell w.heap.size 1 zl hRB).trans z1
   have f0 := (D4.out.o.froz w.heap.size 0 zl hRB).trans (zf 0)
   have f1 := (D4.out.o.froz w.heap.size 1 zl hRB).trans (zf 1)
   go_wp2
   exact bodyPost_ret (v := pt X Y) (by simp [results, Try.results103, go_sem, e0, e1]) rfl ⟨_, _, rfl, (((D4.out.from hA).far hw0 (Nat.le_refl _) hRB _ _).far hw0 (Nat.le_refl _) hRB _ _)⟩
  | true =>
   have hA4 : Bel w4 (w4.alloc (.cells #[.int .i64 10000000, .int .i64 (-10000000), .int .i64 10000001, .int .i64 (-4611686018427387904)] 2)) := bel_alloc (Bel.refl _) _
   have hl4 : w4.heap.size < (w4.alloc (.cells #[.int .i64 10000000, .int .i64 (-10000000), .int .i64 10000001, .int .i64 (-4611686018427387904)] 2)).heap.size := by simp
   have hn4 : w4.heap.size ≠ B := by have := D4.out.k.lt; omega
   have l0 : (w4.alloc (.cells #[.int .i64 10000000, .int .i64 (-10000000), .int .i64 10000001, .int .i64 (-4611686018427387904)] 2)).cell? ⟨w4.heap.size, 0, none⟩ = some (.int .i64 10000000) := by simp [go_sem]
   have l1 : (w4.alloc (.cells #[.int .i64 10000000, .int .i64 (-10000000), .int .i64 10000001, .int .i64 (-4611686018427387904)] 2)).cell? ⟨w4.heap.size, 1, none⟩ = some (.int .i64 (-10000000)) := by simp [go_sem]
   have l2 : (w4.alloc (.cells #[.int .i64 10000000, .int .i64 (-10000000), .int .i64 10000001, .int .i64 (-4611686018427387904)] 2)).cell? ⟨w4.heap.size, 2, none⟩ = some (.int .i64 10000001) := by simp [go_sem]
   have l3 : (w4.alloc (.cells #[.int .i64 10000000, .int .i64 (-10000000), .int .i64 10000001, .int .i64 (-4611686018427387904)] 2)).cell? ⟨w4.heap.size, 3, none⟩ = some (.int .i64 (-4611686018427387904)) := by simp [go_sem]
   go_wp2_with fail
   refine (below_any B a n c w0 _ (bel_step D4.out.b hA4) hB (D4.out.k.bel hA4) hS hn 4 (by decide) (by decide)).mono ?_
   rintro e w5 ⟨r, rfl, ⟨r0, r1⟩, d5⟩
   have l0 := (d5.o.cell w4.heap.size 0 hl4 hn4).trans l0
   have l1 := (d5.o.cell w4.heap.size 1 hl4 hn4).trans l1
   have l2 := (d5.o.cell w4.heap.size 2 hl4 hn4).trans l2
   have l3 := (d5.o.cell w4.heap.size 3 hl4 hn4).trans l3
   have D5 : Hid (Drawn w0 W B a n c w5) := Drawn.then (D4.out.bel hA4) d5
   clear d5 hA4 hl4
   rcases (show r = 0 ∨ r = 1 ∨ r = 2 ∨ r = 3 by omega) with rfl | rfl | rfl | rfl
   ·have e0 := (D5.out.o.cell w.heap.size 0 zl hRB).trans z0
    have e1 := (D5.out.o.cell w.heap.size 1 zl hRB).trans z1
    have f0 := (D5.out.o.froz w.heap.size 0 zl hRB).trans (zf 0)
    have f1 := (D5.out.o.froz w.heap.size 1 zl hRB).trans (zf 1)
    go_wp2
    exact bodyPost_ret (v := pt 10000000 Y) (by simp [results, Try.results103, go_sem, e0, e1]) rfl ⟨_, _, rfl, (((D5.out.from hA).far hw0 (Nat.le_refl _) hRB _ _).far hw0 (Nat.le_refl _) hRB _ _)⟩
   ·have e0 := (D5.out.o.cell w.heap.size 0 zl hRB).trans z0
    have e1 := (D5.out.o.cell w.heap.size 1 zl hRB).trans z1
    have f0 := (D5.out.o.froz w.heap.size 0 zl hRB).trans (zf 0)
    have f1 := (D5.out.o.froz w.heap.size 1 zl hRB).trans (zf 1)
    go_wp2
    exact bodyPost_ret (v := pt (-10000000) Y) (by simp [results, Try.results103, go_sem, e0, e1]) rfl ⟨_, _, rfl, (((D5.out.from hA).far hw0 (Nat.le_refl _) hRB _ _).far hw0 (Nat.le_refl _) hRB _ _)⟩
   ·have e0 := (D5.out.o.cell w.heap.size 0 zl hRB).trans z0
    have e1 := (D5.out.o.cell w.heap.size 1 zl hRB).trans z1
    have f0 := (D5.out.o.froz w.heap.size 0 zl hRB).trans (zf 0)
    have f1 := (D5.out.o.froz w.heap.size 1 zl hRB).trans (zf 1)
    go_wp2
    exact bodyPost_ret (v := pt 10000001 Y) (by simp [results, Try.results103, go_sem, e0, e1]) rfl ⟨_, _, rfl, (((D5.out.from hA).far hw0 (Nat.le_refl _) hRB _ _).far hw0 (Nat.le_refl _) hRB _ _)⟩
   ·have e0 := (D5.out.o.cell w.heap.size 0 zl hRB).trans z0
    have e1 := (D5.out.o.cell w.heap.size 1 zl hRB).trans z1
    have f0 := (D5.out.o.froz w.heap.size 0 zl hRB).trans (zf 0)
    have f1 := (D5.out.o.froz w.heap.size 1 zl hRB).trans (zf 1)
    go_wp2
    exact bodyPost_ret (v := pt (-4611686018427387904) Y) (by simp [results, Try.results103, go_sem, e0, e1]) rfl ⟨_, _, rfl, (((D5.out.from hA).far hw0 (Nat.le_refl _) hRB _ _).far hw0 (Nat.le_refl _) hRB _ _)⟩
 case inr.inr.inl =>
  go_wp2_with fail
  generalize (x - 20) * 321 = X
  generalize (y - 20) * 777 = Y
  refine (once_any B a n c w0 _ D3.out.b hB D3.out.k hS hn 60 (by decide) (by decide)).mono ?_
  rintro e w4 ⟨tt, rfl, d4⟩
  have D4 : Hid (Drawn w0 W B a n c w4) := Drawn.then D3.out d4
  clear d4
  cases tt with
  | false =>
   have e0 := (D4.out.o.cell w.heap.size 0 zl hRB).trans z0
   have e1 := (D4.out.o.cell w.heap.size 1 zl hRB).trans z1
   have f0 := (D4.out.o.froz w.heap.size 0 zl hRB).trans (zf 0)
   have f1 := (D4.out.o.froz w.heap.size 1 zl hRB).trans (zf 1)
   go_wp2
   exact bodyPost_ret (v := pt X Y) (by simp [results, Try.results103, go_sem, e0, e1]) rfl ⟨_, _, rfl, (((D4.out.from hA).far hw0 (Nat.le_refl _) hRB _ _).far hw0 (Nat.le_refl _) hRB _ _)⟩
  | true =>
   have hA4 : Bel w4 (w4.alloc (.cells #[.int .i64 10000000, .int .i64 (-10000000), .int .i64 10000001, .int .i64 (-4611686018427387904)] 2)) := bel_alloc (Bel.refl _) _
   have hl4 : w4.heap.size < (w4.alloc (.cells #[.int .i64 10000000, .int .i64 (-10000000), .int .i64 10000001, .int .i64 (-4611686018427387904)] 2)).heap.size := by simp
   have hn4 : w4.heap.size ≠ B := by have := D4.out.k.lt; omega
   have l0 : (w4.alloc (.cells #[.int .i64 10000000, .int .i64 (-10000000), .int .i64 10000001, .int .i64 (-4611686018427387904)] 2)).cell? ⟨w4.heap.size, 0, none⟩ = some (.int .i64 10000000) := by simp [go_sem]
   have l1 : (w4.alloc (.cells #[.int .i64 10000000, .int .i64 (-10000000), .int .i64 10000001, .int .i64 (-4611686018427387904)] 2)).cell? ⟨w4.heap.size, 1, none⟩ = some (.int .i64 (-10000000)) := by simp [go_sem]
   have l2 : (w4.alloc (.cells #[.int .i64 10000000, .int .i64 (-10000000), .int .i64 10000001, .int .i64 (-4611686018427387904)] 2)).cell? ⟨w4.heap.size, 2, none⟩ = some (.int .i64 10000001) := by simp [go_sem]
   have l3 : (w4.alloc (.cells #[.int .i64 10000000, .int .i64 (-10000000), .int .i64 10000001, .int .i64 (-4611686018427387904)] 2)).cell? ⟨w4.heap.size, 3, none⟩ = some (.int .i64 (-4611686018427387904)) := by simp [go_sem]
   go_wp2_with fail
   refine (below_any B a n c w0 _ (bel_step D4.out.b hA4) hB (D4.out.k.bel hA4) hS hn 4 (by decide) (by decide)).mono ?_
   rintro e w5 ⟨r, rfl, ⟨r0, r1⟩, d5⟩
   have l0 := (d5.o.cell w4.heap.size 0 hl4 hn4).trans l0
   have l1 := (d5.o.cell w4.heap.size 1 hl4 hn4).trans l1
   have l2 := (d5.o.cell w4.heap.size 2 hl4 hn4).trans l2
   have l3 := (d5.o.cell w4.heap.size 3 hl4 hn4).trans l3
   have D5 : Hid (Drawn w0 W B a n c w5) := Drawn.then (D4.out.bel hA4) d5
   clear d5 hA4 hl4
   rcases (show r = 0 ∨ r = 1 ∨ r = 2 ∨ r = 3 by omega) with rfl | rfl | rfl | rfl
   ·have e0 := (D5.out.o.cell w.heap.size 0 zl hRB).trans z0
    have e1 := (D5.out.o.cell w.heap.size 1 zl hRB).trans z1
    have f0 := (D5.out.o.froz w.heap.size 0 zl hRB).trans (zf 0)
    have f1 := (D5.out.o.froz w.heap.size 1 zl hRB).trans (zf 1)
    go_wp2
    exact bodyPost_ret (v := pt 10000000 Y) (by simp [results, Try.results103, go_sem, e0, e1]) rfl ⟨_, _, rfl, (((D5.out.from hA).far hw0 (Nat.le_refl _) hRB _ _).far hw0 (Nat.le_refl _) hRB _ _)⟩
   ·have e0 := (D5.out.o.cell w.heap.size 0 zl hRB).trans z0
    have e1 := (D5.out.o.cell w.heap.size 1 zl hRB).trans z1
    have f0 := (D5.out.o.froz w.heap.size 0 zl hRB).trans (zf 0)
    have f1 := (D5.out.o.froz w.heap.size 1 zl hRB).trans (zf 1)
    go_wp2
    exact bodyPost_ret (v := pt (-10000000) Y) (by simp [results, Try.results103, go_sem, e0, e1]) rfl ⟨_, _, rfl, (((D5.out.from hA).far hw0 (Nat.le_refl _) hRB _ _).far hw0 (Nat.le_refl _) hRB _ _)⟩
   ·have e0 := (D5.out.o.cell w.heap.size 0 zl hRB).trans z0
    have e1 := (D5.out.o.cell w.heap.size 1 zl hRB).trans z1
    have f0 := (D5.out.o.froz w.heap.size 0 zl hRB).trans (zf 0)
    have f1 := (D5.out.o.froz w.heap.size 1 zl hRB).trans (zf 1)
    go_wp2
    exact bodyPost_ret (v := pt 10000001 Y) (by simp [results, Try.results103, go_sem, e0, e1]) rfl ⟨_, _, rfl, (((D5.out.from hA).far hw0 (Nat.le_refl _) hRB _ _).far hw0 (Nat.le_refl _) hRB _ _)⟩
   ·have e0 := (D5.out.o.cell w.heap.size 0 zl hRB).trans z0
    have e1 := (D5.out.o.cell w.heap.size 1 zl hRB).trans z1
    have f0 := (D5.out.o.froz w.heap.size 0 zl hRB).trans (zf 0)
    have f1 := (D5.out.o.froz w.heap.size 1 zl hRB).trans (zf 1)
    go_wp2
    exact bodyPost_ret (v := pt (-4611686018427387904) Y) (by simp [results, Try.results103, go_sem, e0, e1]) rfl ⟨_, _, rfl, (((D5.out.from hA).far hw0 (Nat.le_refl _) hRB _ _).far hw0 (Nat.le_refl _) hRB _ _)⟩
 case inr.inr.inr =>
  have h0 : ¬ t = 0 := by omega
  have h1 : ¬ t = 1 := by omega
  have h2 : ¬ t = 2 := by omega
  go_wp2_with fail
  generalize x - 20 = X
  generalize y - 20 = Y
  refine (once_any B a n c w0 _ D3.out.b hB D3.out.k hS hn 60 (by decide) (by decide)).mono ?_
  rintro e w4 ⟨tt, rfl, d4⟩
  have D4 : Hid (Drawn w0 W B a n c w4) := Drawn.then D3.out d4
  clear d4
  cases tt with
  | false =>
   have e0 := (D4.out.o.cell w.heap.size 0 zl hRB).trans z0
   have e1 := (D4.out.o.cell w.heap.size 1 zl hRB).trans z1
   have f0 := (D4.out.o.froz w.heap.size 0 zl hRB).trans (zf 0)
   have f1 := (D4.out.o.froz w.heap.size 1 zl hRB).trans (zf 1)
   go_wp2
   exact bodyPost_ret (v := pt X Y) (by simp [results, Try.results103, go_sem, e0, e1]) rfl ⟨_, _, rfl, (((D4.out.from hA).far hw0 (Nat.le_refl _) hRB _ _).far hw0 (Nat.le_refl _) hRB _ _)⟩
  | true =>
   have hA4 : Bel w4 (w4.alloc (.cells #[.int .i64 10000000, .int .i64 (-10000000), .int .i64 10000001, .int .i64 (-4611686018427387904)] 2)) := bel_alloc (Bel.refl _) _
   have hl4 : w4.heap.size < (w4.alloc (.cells #[.int .i64 10000000, .int .i64 (-10000000), .int .i64 10000001, .int .i64 (-4611686018427387904)] 2)).heap.size := by simp
   have hn4 : w4.heap.size ≠ B := by have := D4.out.k.lt; omega
   have l0 : (w4.alloc (.cells #[.int .i64 10000000, .int .i64 (-10000000), .int .i64 10000001, .int .i64 (-4611686018427387904)] 2)).cell? ⟨w4.heap.size, 0, none⟩ = some (.int .i64 10000000) := by simp [go_sem]
   have l1 : (w4.alloc (.cells #[.int .i64 10000000, .int .i64 (-10000000), .int .i64 10000001, .int .i64 (-4611686018427387904)] 2)).cell? ⟨w4.heap.size, 1, none⟩ = some (.int .i64 (-10000000)) := by simp [go_sem]
   have l2 : (w4.alloc (.cells #[.int .i64 10000000, .int .i64 (-10000000), .int .i64 10000001, .int .i64 (-4611686018427387904)] 2)).cell? ⟨w4.heap.size, 2, none⟩ = some (.int .i64 10000001) := by simp [go_sem]
   have l3 : (w4.alloc (.cells #[.int .i64 10000000, .int .i64 (-10000000), .int .i64 10000001, .int .i64 (-4611686018427387904)] 2)).cell? ⟨w4.heap.size, 3, none⟩ = some (.int .i64 (-4611686018427387904)) := by simp [go_sem]
   go_wp2_with fail
   refine (below_any B a n c w0 _ (bel_step D4.out.b hA4) hB (D4.out.k.bel hA4) hS hn 4 (by decide) (by decide)).mono ?_
   rintro e w5 ⟨r, rfl, ⟨r0, r1⟩, d5⟩
   have l0 := (d5.o.cell w4.heap.size 0 hl4 hn4).trans l0
   have l1 := (d5.o.cell w4.heap.size 1 hl4 hn4).trans l1
   have l2 := (d5.o.cell w4.heap.size 2 hl4 hn4).trans l2
   have l3 := (d5.o.cell w4.heap.size 3 hl4 hn4).trans l3
   have D5 : Hid (Drawn w0 W B a n c w5) := Drawn.then (D4.out.bel hA4) d5
   clear d5 hA4 hl4
   rcases (show r = 0 ∨ r = 1 ∨ r = 2 ∨ r = 3 by omega) with rfl | rfl | rfl | rfl
   ·have e0 := (D5.out.o.cell w.heap.size 0 zl hRB).trans z0
    have e1 := (D5.out.o.cell w.heap.size 1 zl hRB).trans z1
    have f0 := (D5.out.o.froz w.heap.size 0 zl hRB).trans (zf 0)
    have f1 := (D5.out.o.froz w.heap.size 1 zl hRB).trans (zf 1)
    go_wp2
    exact bodyPost_ret (v := pt 10000000 Y) (by simp [results, Try.results103, go_sem, e0, e1]) rfl ⟨_, _, rfl, (((D5.out.from hA).far hw0 (Nat.le_refl _) hRB _ _).far hw0 (Nat.le_refl _) hRB _ _)⟩
   ·have e0 := (D5.out.o.cell w.heap.size 0 zl hRB).trans z0
    have e1 := (D5.out.o.cell w.heap.size 1 zl hRB).trans z1
    have f0 := (D5.out.o.froz w.heap.size 0 zl hRB).trans (zf 0)
    have f1 := (D5.out.o.froz w.heap.size 1 zl hRB).trans (zf 1)
    go_wp2
    exact bodyPost_ret (v := pt (-10000000) Y) (by simp [results, Try.results103, go_sem, e0, e1]) rfl ⟨_, _, rfl, (((D5.out.from hA).far hw0 (Nat.le_refl _) hRB _ _).far hw0 (Nat.le_refl _) hRB _ _)⟩
   ·have e0 := (D5.out.o.cell w.heap.size 0 zl hRB).trans z0
    have e1 := (D5.out.o.cell w.heap.size 1 zl hRB).trans z1
    have f0 := (D5.out.o.froz w.heap.size 0 zl hRB).trans (zf 0)
    have f1 := (D5.out.o.froz w.heap.size 1 zl hRB).trans (zf 1)
    go_wp2
    exact bodyPost_ret (v := pt 10000001 Y) (by simp [results, Try.results103, go_sem, e0, e1]) rfl ⟨_, _, rfl, (((D5.out.from hA).far hw0 (Nat.le_refl _) hRB _ _).far hw0 (Nat.le_refl _) hRB _ _)⟩
   ·have e0 := (D5.out.o.cell w.heap.size 0 zl hRB).trans z0
    have e1 := (D5.out.o.cell w.heap.size 1 zl hRB).trans z1
    have f0 := (D5.out.o.froz w.heap.size 0 zl hRB).trans (zf 0)
    have f1 := (D5.out.o.froz w.heap.size 1 zl hRB).trans (zf 1)
    go_wp2
    exact bodyPost_ret (v := pt (-4611686018427387904) Y) (by simp [results, Try.results103, go_sem, e0, e1]) rfl ⟨_, _, rfl, (((D5.out.from hA).far hw0 (Nat.le_refl _) hRB _ _).far hw0 (Nat.le_refl _) hRB _ _)⟩
end Go.Proofs.Ytkmccjjghpnejaa
