/-
  What the model draws for codes, places of codes and cells.
-/
import Derived.Test.YtkncogipffofeaaDoorCdM
import Derived.Test.YtkncogipffofeaaDoorDrawT
namespace Go.Proofs.YtkncogipffofeaaDoor
open Go.RowKit

theorem wrapU (z : Int) : ∃ k : Nat, IntKind.u64.wrap z = (k : Int) ∧ k < 18446744073709551616 := by
  rw [IntKind.wrap_u64]
  exact ⟨(z % 18446744073709551616).toNat, by omega, by omega⟩
theorem xorU (a b : Int) : ∃ k : Nat, bits .xor .u64 a b = (k : Int) ∧ k < 18446744073709551616 := wrapU _

set_option maxRecDepth 100000 in
set_option maxHeartbeats 4000000 in
theorem drawCodeOf_any (a : Option Addr) (n c : Nat) (w : World) (hS : Bts w a n) (hn : n ≤ 1048576) :
    Calls Tryd.prog 6 #[.slice a n c] w fun e w' => ∃ x y : Int, e = .returned (pt x y) ∧ Bel w w' := by
  obtain ⟨W, HW⟩ : ∃ W, Hid (W = w.alloc (.cells #[.int .i64 0, .int .i64 0] 25)) := ⟨_, (rfl : w.alloc (.cells #[.int .i64 0, .int .i64 0] 25) = _)⟩
  have hW : Bel w W := by rw [HW.out]; exact bel_alloc (Bel.refl _) _
  have Z0 : Pa W w.heap.size 0 0 := by rw [HW.out]; exact Pa.new w 0 0 _
  have HS := hS.bel hW
  go_enter Tryd.func6, Tryd.ntmps6
  go_wp2_with fail
  rw [← HW.out]
  refine (l1New_any a n c W HS hn).mono ?_
  rintro e w1 ⟨rfl, hb1, k1⟩
  go_wp2_with fail
  refine (drawPoint_any _ a n c W w1 hb1 (Nat.le_refl _) k1 HS hn).mono ?_
  rintro e w2 ⟨x, y, rfl, d2⟩
  have Z2 := Z0.bel d2.b
  have z0 := Z2.c0
  have z1 := Z2.c1
  have f0 := Z2.fr 0
  have f1 := Z2.fr 1
  have B2 := bel_step hW d2.b
  clear d2 hb1 k1 Z0 HW
  go_wp2
  exact bodyPost_ret (v := pt x y) (by simp [results, Tryd.results6, go_sem, z0, z1]) rfl ⟨_, _, rfl, bel_set (bel_set B2 (Nat.le_refl _) _) (Nat.le_refl _) _⟩

set_option maxRecDepth 100000 in
set_option maxHeartbeats 4000000 in
theorem drawPointOf_any (a : Option Addr) (n c : Nat) (w : World) (hS : Bts w a n) (hn : n ≤ 1048576) :
    Calls Tryd.prog 10 #[.slice a n c] w fun e w' => ∃ k : Nat, e = .returned (.int .u64 (k : Int)) ∧ k < 18446744073709551616 ∧ Bel w w' := by
  go_enter Tryd.func10, Tryd.ntmps10
  go_wp2_with fail
  refine (l1New_any a n c w hS hn).mono ?_
  rintro e w1 ⟨rfl, hb1, k1⟩
  go_wp2_with fail
  refine (drawPoint_any _ a n c w _ hb1 (Nat.le_refl _) k1 hS hn).mono ?_
  rintro e w2 ⟨x, y, rfl, d2⟩
  go_wp2_with fail
  refine (specCodeOf_any x y w2).mono ?_
  rintro e w3 ⟨rfl, hb3⟩
  obtain ⟨k, ek, hk⟩ := cod_some x y
  rw [ek]
  clear ek
  have d3 := d2.bel hb3
  clear d2 hb3 hb1 k1
  go_wp2_with fail
  refine (below_any _ a n c w _ d3.b (Nat.le_refl _) d3.k hS hn 6 (by decide) (by decide)).mono ?_
  rintro e w4 ⟨t, rfl, ⟨t0, t1⟩, d4⟩
  have d4 := d3.then d4
  clear d3
  rcases (show t = 0 ∨ t = 1 ∨ 1 < t by omega) with rfl | rfl | ht
  · go_wp2_with fail
    refine (below_any _ a n c w _ d4.b (Nat.le_refl _) d4.k hS hn 52 (by decide) (by decide)).mono ?_
    rintro e w5 ⟨u, rfl, ⟨u0, u1⟩, d5⟩
    have B5 := d5.b
    clear d4 d5
    have uw : IntKind.u64.wrap u = u := by rw [IntKind.wrap_u64]; omega
    go_wp2
    obtain ⟨r, er, hr⟩ := xorU (k : Int) (IntKind.u64.wrap (2 ^ u.toNat))
    rw [er]
    go_ret
    exact ⟨r, rfl, hr, B5⟩
  · go_wp2_with fail
    refine (below_any _ a n c w _ d4.b (Nat.le_refl _) d4.k hS hn 4294967296 (by decide) (by decide)).mono ?_
    rintro e w5 ⟨u, rfl, ⟨u0, u1⟩, d5⟩
    have d5 := d4.then d5
    clear d4
    go_wp2_with fail
    refine (below_any _ a n c w _ d5.b (Nat.le_refl _) d5.k hS hn 30 (by decide) (by decide)).mono ?_
    rintro e w6 ⟨v, rfl, ⟨v0, v1⟩, d6⟩
    have B6 := d6.b
    clear d5 d6
    go_wp2
    obtain ⟨r, er, hr⟩ := wrapU (u * 2 ^ v.toNat)
    rw [er]
    go_ret
    exact ⟨r, rfl, hr, B6⟩
  · have h0 : ¬ t = 0 := by omega
    have h1 : ¬ t = 1 := by omega
    have B4 := d4.b
    clear d4
    go_wp2
    go_ret
    exact ⟨k, rfl, by omega, B4⟩

set_option maxRecDepth 100000 in
set_option maxHeartbeats 4000000 in
theorem drawCell_any (B : Nat) (a : Option Addr) (n c : Nat) (w0 w : World) (hb : Bel w0 w) (hB : w0.heap.size ≤ B) (hC : Cur w B a n c) (hS : Bts w0 a n) (hn : n ≤ 1048576) :
    Calls Tryd.prog 22 #[.pointer (some ⟨B, 0, none⟩)] w fun e w' => ∃ (k : Nat) (l : Int), e = .returned (cel k l) ∧ k < 18446744073709551616 ∧ Bel w0 w' := by
  obtain ⟨W, HW⟩ : ∃ W, Hid (W = w.alloc (.cells #[.int .u64 0, .int .i64 0] 34)) := ⟨_, (rfl : w.alloc (.cells #[.int .u64 0, .int .i64 0] 34) = _)⟩
  have hW : Bel w W := by rw [HW.out]; exact bel_alloc (Bel.refl _) _
  have Z0 : W.cell? ⟨w.heap.size, 0, none⟩ = some (.int .u64 0) ∧ W.cell? ⟨w.heap.size, 1, none⟩ = some (.int .i64 0) ∧ (∀ j, W.frozen? ⟨w.heap.size, j, none⟩ = false) ∧ w.heap.size < W.heap.size := by rw [HW.out]; exact ⟨by simp [go_sem], by simp [go_sem], fun j => by simp, by simp⟩
  have hlt := hC.lt
  have hw0 := hb.out.size
  have hRB : w.heap.size ≠ B := by omega
  have D0 : Drawn w0 W B a n c W := ⟨bel_step hb hW, OnlyB.refl _ _, hC.bel hW⟩
  go_enter Tryd.func22, Tryd.ntmps22
  go_wp2_with fail
  rw [← HW.out]
  refine (below_any B a n c w0 W D0.b hB D0.k hS hn 26 (by decide) (by decide)).mono ?_
  rintro e w1 ⟨l, rfl, ⟨l0, l1⟩, d1⟩
  have D1 : Hid (Drawn w0 W B a n c w1) := D0.then d1
  clear d1 D0
  go_wp2_with fail
  refine (drawPoint_any B a n c w0 w1 D1.out.b hB D1.out.k hS hn).mono ?_
  rintro e w2 ⟨x, y, rfl, d2⟩
  have D2 : Hid (Drawn w0 W B a n c w2) := D1.out.then d2
  clear d2 D1
  go_wp2_with fail
  refine (specCodeOf_any x y w2).mono ?_
  rintro e w3 ⟨rfl, hb3⟩
  obtain ⟨k, ek, hk⟩ := cod_some x y
  rw [ek]
  clear ek
  have D3 : Hid (Drawn w0 W B a n c w3) := D2.out.bel hb3
  clear D2 hb3
  obtain ⟨q, eq, hq⟩ : ∃ q : Nat, (k : Int) / 2 ^ (50 - 2 * l).toNat = (q : Int) ∧ q < 18446744073709551616 := by
    refine ⟨k / 2 ^ (50 - 2 * l).toNat, by rw [pow_i, Int.natCast_ediv], ?_⟩
    exact Nat.lt_of_le_of_lt (Nat.div_le_self _ _) (Nat.lt_trans hk (by decide))
  have hB3 : B < w3.heap.size := D3.out.k.lt
  have hR3 : w.heap.size < w3.heap.size := Nat.lt_of_lt_of_le Z0.2.2.2 D3.out.o.size
  go_wp2_with fail
  obtain ⟨V, HV⟩ : ∃ V, Hid (V = w3.alloc (.cells #[.int .u64 (q : Int), .int .i64 l] 34)) := ⟨_, (rfl : w3.alloc (.cells #[.int .u64 (q : Int), .int .i64 l] 34) = _)⟩
  have hV : Bel w3 V := by rw [HV.out]; exact bel_alloc (Bel.refl _) _
  have X0 : V.cell? ⟨w3.heap.size, 0, none⟩ = some (.int .u64 (q : Int)) ∧ V.cell? ⟨w3.heap.size, 1, none⟩ = some (.int .i64 l) ∧ (∀ j, V.frozen? ⟨w3.heap.size, j, none⟩ = false) ∧ w3.heap.size < V.heap.size := by rw [HV.out]; exact ⟨by simp [go_sem], by simp [go_sem], fun j => by simp, by simp⟩
  have D4 : Hid (Drawn w0 W B a n c V) := D3.out.bel hV
  clear D3 hV
  rw [← HV.out]
  have hne3 : w3.heap.size ≠ B := by omega
  refine (once_any B a n c w0 V D4.out.b hB D4.out.k hS hn 12 (by decide) (by decide)).mono ?_
  rintro e w4 ⟨t, rfl, d5⟩
  have D5 : Hid (Drawn w0 W B a n c w4) := D4.out.then d5
  have x0 := (d5.o.cell w3.heap.size 0 X0.2.2.2 hne3).trans X0.1
  have x1 := (d5.o.cell w3.heap.size 1 X0.2.2.2 hne3).trans X0.2.1
  have xf : ∀ j, w4.frozen? ⟨w3.heap.size, j, none⟩ = false := fun j => (d5.o.froz w3.heap.size j X0.2.2.2 hne3).trans (X0.2.2.1 j)
  have h34 : w3.heap.size < w4.heap.size := Nat.lt_of_lt_of_le X0.2.2.2 d5.o.size
  have nR : ¬ w3.heap.size = w.heap.size := by omega
  have nR' : ¬ w.heap.size = w3.heap.size := by omega
  have hw3 : w0.heap.size ≤ w3.heap.size := by omega
  clear d5 D4 X0 HV
  cases t
  · have z0 := (D5.out.o.cell w.heap.size 0 Z0.2.2.2 hRB).trans Z0.1
    have z1 := (D5.out.o.cell w.heap.size 1 Z0.2.2.2 hRB).trans Z0.2.1
    have f0 := (D5.out.o.froz w.heap.size 0 Z0.2.2.2 hRB).trans (Z0.2.2.1 0)
    have f1 := (D5.out.o.froz w.heap.size 1 Z0.2.2.2 hRB).trans (Z0.2.2.1 1)
    go_wp2
    exact bodyPost_ret (v := cel q l) (by simp [results, Tryd.results22, go_sem, z0, z1]) rfl ⟨q, l, rfl, hq, bel_set (bel_set D5.out.b hw0 _) hw0 _⟩
  · obtain ⟨U, HU⟩ : ∃ U, Hid (U = w4.alloc (.cells #[.int .i64 (-1), .int .i64 26, .int .i64 0, .int .i64 1] 2)) := ⟨_, (rfl : w4.alloc (.cells #[.int .i64 (-1), .int .i64 26, .int .i64 0, .int .i64 1] 2) = _)⟩
    have hU : Bel w4 U := by rw [HU.out]; exact bel_alloc (Bel.refl _) _
    have Y0 : U.cell? ⟨w4.heap.size, 0, none⟩ = some (.int .i64 (-1)) ∧ U.cell? ⟨w4.heap.size, 1, none⟩ = some (.int .i64 26) ∧ U.cell? ⟨w4.heap.size, 2, none⟩ = some (.int .i64 0) ∧ U.cell? ⟨w4.heap.size, 3, none⟩ = some (.int .i64 1) ∧ w4.heap.size < U.heap.size := by rw [HU.out]; exact ⟨by simp [go_sem], by simp [go_sem], by simp [go_sem], by simp [go_sem], by simp⟩
    have x0 := cur_cell hU h34 x0
    have x1 := cur_cell hU h34 x1
    have xf : ∀ j, U.frozen? ⟨w3.heap.size, j, none⟩ = false := fun j => by rw [hU.out.frozen (p := ⟨w3.heap.size, j, none⟩) h34]; exact xf j
    have D6 : Hid (Drawn w0 W B a n c U) := D5.out.bel hU
    have h3U : w3.heap.size < U.heap.size := Nat.lt_of_lt_of_le h34 hU.out.size
    have hne4 : w4.heap.size ≠ B := by have := D5.out.k.lt; omega
    clear D5 hU
    go_wp2_with fail
    rw [← HU.out]
    refine (below_any B a n c w0 U D6.out.b hB D6.out.k hS hn 4 (by decide) (by decide)).mono ?_
    rintro e w5 ⟨m, rfl, ⟨m0, m1⟩, d7⟩
    have D7 : Hid (Drawn w0 W B a n c w5) := D6.out.then d7
    have x0 := (d7.o.cell w3.heap.size 0 h3U hne3).trans x0
    have x1 := (d7.o.cell w3.heap.size 1 h3U hne3).trans x1
    have xf1 := (d7.o.froz w3.heap.size 1 h3U hne3).trans (xf 1)
    have y0 := (d7.o.cell w4.heap.size 0 Y0.2.2.2.2 hne4).trans Y0.1
    have y1 := (d7.o.cell w4.heap.size 1 Y0.2.2.2.2 hne4).trans Y0.2.1
    have y2 := (d7.o.cell w4.heap.size 2 Y0.2.2.2.2 hne4).trans Y0.2.2.1
    have y3 := (d7.o.cell w4.heap.size 3 Y0.2.2.2.2 hne4).trans Y0.2.2.2.1
    have z0 := (D7.out.o.cell w.heap.size 0 Z0.2.2.2 hRB).trans Z0.1
    have z1 := (D7.out.o.cell w.heap.size 1 Z0.2.2.2 hRB).trans Z0.2.1
    have f0 := (D7.out.o.froz w.heap.size 0 Z0.2.2.2 hRB).trans (Z0.2.2.1 0)
    have f1 := (D7.out.o.froz w.heap.size 1 Z0.2.2.2 hRB).trans (Z0.2.2.1 1)
    have B7 := D7.out.b
    clear D6 D7 d7 xf HU Y0 Z0
    rcases (show m = 0 ∨ m = 1 ∨ m = 2 ∨ m = 3 by omega) with rfl | rfl | rfl | rfl
    · go_wp2
      exact bodyPost_ret (v := cel q (-1)) (by simp [results, Tryd.results22, go_sem, z0, z1]) rfl ⟨q, (-1), rfl, hq, bel_set (bel_set (bel_set B7 hw3 _) hw0 _) hw0 _⟩
    · go_wp2
      exact bodyPost_ret (v := cel q 26) (by simp [results, Tryd.results22, go_sem, z0, z1]) rfl ⟨q, 26, rfl, hq, bel_set (bel_set (bel_set B7 hw3 _) hw0 _) hw0 _⟩
    · go_wp2
      exact bodyPost_ret (v := cel q 0) (by simp [results, Tryd.results22, go_sem, z0, z1]) rfl ⟨q, 0, rfl, hq, bel_set (bel_set (bel_set B7 hw3 _) hw0 _) hw0 _⟩
    · go_wp2
      exact bodyPost_ret (v := cel q 1) (by simp [results, Tryd.results22, go_sem, z0, z1]) rfl ⟨q, 1, rfl, hq, bel_set (bel_set (bel_set B7 hw3 _) hw0 _) hw0 _⟩

set_option maxRecDepth 100000 in
set_option maxHeartbeats 4000000 in
theorem drawCellBox_any (a : Option Addr) (n c : Nat) (w : World) (hS : Bts w a n) (hn : n ≤ 1048576) :
    Calls Tryd.prog 11 #[.slice a n c] w fun e w' => ∃ (k : Nat) (l : Int), e = .returned (cel k l) ∧ k < 18446744073709551616 ∧ Bel w w' := by
  obtain ⟨W, HW⟩ : ∃ W, Hid (W = w.alloc (.cells #[.int .u64 0, .int .i64 0] 34)) := ⟨_, (rfl : w.alloc (.cells #[.int .u64 0, .int .i64 0] 34) = _)⟩
  have hW : Bel w W := by rw [HW.out]; exact bel_alloc (Bel.refl _) _
  have Z0 : W.cell? ⟨w.heap.size, 0, none⟩ = some (.int .u64 0) ∧ W.cell? ⟨w.heap.size, 1, none⟩ = some (.int .i64 0) ∧ (∀ j, W.frozen? ⟨w.heap.size, j, none⟩ = false) ∧ w.heap.size < W.heap.size := by rw [HW.out]; exact ⟨by simp [go_sem], by simp [go_sem], fun j => by simp, by simp⟩
  have HS := hS.bel hW
  go_enter Tryd.func11, Tryd.ntmps11
  go_wp2_with fail
  rw [← HW.out]
  refine (l1New_any a n c W HS hn).mono ?_
  rintro e w1 ⟨rfl, hb1, k1⟩
  go_wp2_with fail
  refine (drawCell_any _ a n c W w1 hb1 (Nat.le_refl _) k1 HS hn).mono ?_
  rintro e w2 ⟨k, l, rfl, hk, hb2⟩
  have z0 := cur_cell hb2 Z0.2.2.2 Z0.1
  have z1 := cur_cell hb2 Z0.2.2.2 Z0.2.1
  have f0 : w2.frozen? ⟨w.heap.size, 0, none⟩ = false := by rw [hb2.out.frozen (p := ⟨w.heap.size, 0, none⟩) Z0.2.2.2]; exact Z0.2.2.1 0
  have f1 : w2.frozen? ⟨w.heap.size, 1, none⟩ = false := by rw [hb2.out.frozen (p := ⟨w.heap.size, 1, none⟩) Z0.2.2.2]; exact Z0.2.2.1 1
  have B2 := bel_step hW hb2
  clear hb1 k1 Z0 HW hb2
  go_wp2
  exact bodyPost_ret (v := cel k l) (by simp [results, Tryd.results11, go_sem, z0, z1]) rfl ⟨k, l, rfl, hk, bel_set (bel_set B2 (Nat.le_refl _) _) (Nat.le_refl _) _⟩
end Go.Proofs.YtkncogipffofeaaDoor
