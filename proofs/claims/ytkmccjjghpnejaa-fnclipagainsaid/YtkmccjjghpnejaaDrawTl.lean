/-
  What the model draws as a tile, and for TilesOf: any box and a zoom.
-/
import Derived.Test.YtkmccjjghpnejaaDrawB
namespace Go.Proofs.Ytkmccjjghpnejaa
open Go.RowKit

set_option maxRecDepth 100000 in
theorem l6Side_gen (z : Int) (w : World) :
  Calls Try.prog 80 #[.int .i64 z] w fun e w' => ∃ s : Int, e = .returned (.int .i64 s) ∧ w' = w := by
 go_enter Try.func80, Try.ntmps80
 go_wp2
 go_ret
 exact ⟨_, rfl, rfl⟩
set_option maxRecDepth 100000 in
set_option maxHeartbeats 1000000 in
theorem l6Box_gen (z x y : Int) (w : World) :
  Calls Try.prog 29 #[til z x y] w fun e w' => ∃ q : BoxD, e = .returned (bxv q) ∧ Bel w w' := by
 obtain ⟨W, HW⟩ : ∃ W, Hid (W = (w.alloc (.cells #[.int .i64 z, .int .i64 x, .int .i64 y] 26)).alloc (.cells #[.int .i64 0, .int .i64 0, .int .i64 0, .int .i64 0] 33)) := ⟨_, (rfl : (w.alloc (.cells #[.int .i64 z, .int .i64 x, .int .i64 y] 26)).alloc (.cells #[.int .i64 0, .int .i64 0, .int .i64 0, .int .i64 0] 33) = _)⟩
 have hBW : Bel w W := by rw [HW.out]; exact bel_alloc (bel_alloc (Bel.refl _) _) _
 have X0 : Blk W w.heap.size [.int .i64 z, .int .i64 x, .int .i64 y] := by rw [HW.out]; exact (Blk.new w [.int .i64 z, .int .i64 x, .int .i64 y] _).bel (bel_alloc (Bel.refl _) _)
 have X1 : Blk W (w.heap.size + 1) zer4 := by rw [HW.out]; exact Blk.new1 w _ zer4 _
 have c0 := X0.cell 0 (by simp)
 have c1 := X0.cell 1 (by simp)
 have c2 := X0.cell 2 (by simp)
 have f0 := X1.free 0
 have f1 := X1.free 1
 have f2 := X1.free 2
 have f3 := X1.free 3
 have d0 := X1.cell 0 (by simp)
 have d1 := X1.cell 1 (by simp)
 have d2 := X1.cell 2 (by simp)
 have d3 := X1.cell 3 (by simp)
 simp only [List.getElem_cons_zero, List.getElem_cons_succ] at c0 c1 c2 d0 d1 d2 d3
 have l0 := X0.lt
 have l1 := X1.lt
 go_enter Try.func29, Try.ntmps29
 go_wp2_with fail
 rw [← HW.out]
 refine (l6Side_gen _ _).mono ?_
 rintro e w2 ⟨s, rfl, rfl⟩
 have hS : ∀ (p q r t : Int) (o : Obj), Hid (∀ i : Nat, i < 4 → (((((w2.setCell ⟨w.heap.size + 1, 0, none⟩ (.int .i64 p)).setCell ⟨w.heap.size + 1, 1, none⟩ (.int .i64 q)).setCell ⟨w.heap.size + 1, 2, none⟩ (.int .i64 r)).setCell ⟨w.heap.size + 1, 3, none⟩ (.int .i64 t)).alloc o).cell? ⟨w.heap.size + 1, i, none⟩ = [Value.int .i64 p, .int .i64 q, .int .i64 r, .int .i64 t][i]?) := fun p q r t o i hi => by
  have h := ((((X1.set 0 (.int .i64 p) (by simp)).set 1 (.int .i64 q) (by simp)).set 2 (.int .i64 r) (by simp)).set 3 (.int .i64 t) (by simp)).bel (bel_alloc (Bel.refl _) o)
  rw [h.cell i (by simpa using hi)]
  simp
 have hV : ∀ (p q r t : Int) (o : Obj), Hid (Bel w (((((w2.setCell ⟨w.heap.size + 1, 0, none⟩ (.int .i64 p)).setCell ⟨w.heap.size + 1, 1, none⟩ (.int .i64 q)).setCell ⟨w.heap.size + 1, 2, none⟩ (.int .i64 r)).setCell ⟨w.heap.size + 1, 3, none⟩ (.int .i64 t)).alloc o)) := fun p q r t o => bel_alloc (bel_set (bel_set (bel_set (bel_set hBW (Nat.le_succ _) _) (Nat.le_succ _) _) (Nat.le_succ _) _) (Nat.le_succ _) _) _
 clear X0 X1
 go_wp2
 generalize wrap64 (wrap64 (wrap64 (x * s) - 16777216) + s) = c
 generalize wrap64 (wrap64 (wrap64 (y * s) - 16777216) + s) = d
 generalize wrap64 (wrap64 (x * s) - 16777216) = a
 generalize wrap64 (wrap64 (y * s) - 16777216) = b
 have h := hS a b c d (.cells #[.int .i64 a, .int .i64 b] 31)
 have h' := hV a b c d (.cells #[.int .i64 a, .int .i64 b] 31)
 have z0 := h.out 0 (by decide)
 have z1 := h.out 1 (by decide)
 have z2 := h.out 2 (by decide)
 have z3 := h.out 3 (by decide)
 generalize (((((w2.setCell ⟨w.heap.size + 1, 0, none⟩ (.int .i64 a)).setCell ⟨w.heap.size + 1, 1, none⟩ (.int .i64 b)).setCell ⟨w.heap.size + 1, 2, none⟩ (.int .i64 c)).setCell ⟨w.heap.size + 1, 3, none⟩ (.int .i64 d)).alloc (.cells #[.int .i64 a, .int .i64 b] 31)) = U at z0 z1 z2 z3 h' ⊢
 simp only [List.getElem?_cons_zero, List.getElem?_cons_succ] at z0 z1 z2 z3
 exact bodyPost_ret (v := bxv ⟨a, b, c, d⟩) (by simp [results, Try.results29, go_sem, z0, z1, z2, z3]) rfl ⟨⟨a, b, c, d⟩, rfl, h'.out⟩

structure CutT (w0 b : World) (B : Nat) (a : Option Addr) (n c g : Nat) (w : World) : Prop where
 out : ∃ z x y : Int, Blk w g [.int .i64 z, .int .i64 x, .int .i64 y] ∧ Drawn w0 b B a n c w
set_option maxRecDepth 100000 in
set_option maxHeartbeats 2000000 in
theorem drawTile_any (B : Nat) (a : Option Addr) (n c : Nat) (w0 w : World) (hb : Bel w0 w) (hB : w0.heap.size ≤ B) (hC : Cur w B a n c) (hS : Bts w0 a n) (hn : n ≤ 1048576) :
  Calls Try.prog 25 #[.pointer (some ⟨B, 0, none⟩)] w fun e w' => ∃ z x y : Int, e = .returned (til z x y) ∧ Drawn w0 w B a n c w' := by
 obtain ⟨W, HW⟩ : ∃ W, Hid (W = w.alloc (.cells #[.int .i64 0, .int .i64 0, .int .i64 0] 26)) := ⟨_, (rfl : w.alloc (.cells #[.int .i64 0, .int .i64 0, .int .i64 0] 26) = _)⟩
 have hW : Bel w W := by rw [HW.out]; exact bel_alloc (Bel.refl _) _
 have Z0 : Blk W w.heap.size [.int .i64 0, .int .i64 0, .int .i64 0] := by rw [HW.out]; exact Blk.new w [.int .i64 0, .int .i64 0, .int .i64 0] _
 have hlt := hC.lt
 have hw0 := hb.out.size
 have hRB : w.heap.size ≠ B := by omega
 have D0 : Drawn w0 W B a n c W := ⟨bel_step hb hW, OnlyB.refl _ _, hC.bel hW⟩
 go_enter Try.func25, Try.ntmps25
 go_wp2_with fail
 rw [← HW.out]
 refine (below_any B a n c w0 W D0.b hB D0.k hS hn 11 (by decide) (by decide)).mono ?_
 rintro e w1 ⟨z, rfl, ⟨hz0, hz1⟩, d1⟩
 have D1 : Hid (Drawn w0 W B a n c w1) := D0.then d1
 clear d1 D0
 obtain ⟨Z, rfl⟩ : ∃ Z : Nat, z = Z := ⟨z.toNat, by omega⟩
 have hZ : Z ≤ 10 := by omega
 have n0 := (zNS (zm_of hZ)).2.2.1
 have n1 := (zNS (zm_of hZ)).2.2.2.1
 have hnn := zN_int Z
 obtain ⟨N, HN⟩ : ∃ N : Int, Hid ((zN (Z : Int) : Int) = N) := ⟨_, (rfl : (zN (Z : Int) : Int) = _)⟩
 have hN0 : 0 < N := by rw [← HN.out]; omega
 have hN1 : N ≤ 1024 := by rw [← HN.out]; omega
 rw [HN.out] at hnn
 have hw : IntKind.i64.wrap N = N := by rw [IntKind.wrap_i64]; omega
 have hw1 : IntKind.i64.wrap (N - 1) = N - 1 := by rw [IntKind.wrap_i64]; omega
 clear n0 n1 HN
 obtain ⟨t0, e0⟩ : ∃ t, ((Z : Int) == 0) = t := ⟨_, rfl⟩
 go_wp2_with fail
 refine (below_any B a n c w0 w1 D1.out.b hB D1.out.k hS hn 2 (by decide) (by decide)).mono ?_
 rintro e w2 ⟨x, rfl, _, d2⟩
 have D2 : Hid (Drawn w0 W B a n c w2) := D1.out.then d2
 clear d2 D1
 go_wp2_with fail
 refine (below_any B a n c w0 w2 D2.out.b hB D2.out.k hS hn 2 (by decide) (by decide)).mono ?_
 rintro e w3 ⟨y, rfl, _, d3⟩
 have D3 : Hid (Drawn w0 W B a n c w3) := D2.out.then d3
 clear d3 D2
 go_upto_if 26 with fail
 generalize N / 2 + x - 1 = x1
 generalize N / 2 + y - 1 = y1
 obtain ⟨V, HV⟩ : ∃ V, Hid (V = w3.alloc (.cells #[.int .i64 (Z : Int), .int .i64 x1, .int .i64 y1] 26)) := ⟨_, (rfl : w3.alloc (.cells #[.int .i64 (Z : Int), .int .i64 x1, .int .i64 y1] 26) = _)⟩
 have DV : Hid (Drawn w0 W B a n c V) := by rw [HV.out]; exact D3.out.alcB _
 have KV : Blk V w3.heap.size [.int .i64 (Z : Int), .int .i64 x1, .int .i64 y1] := by rw [HV.out]; exact Blk.new w3 [.int .i64 (Z : Int), .int .i64 x1, .int .i64 y1] _
 have hgW : W.heap.size ≤ w3.heap.size := D3.out.o.size
 have hgB : w3.heap.size ≠ B := by have := D3.out.k.lt; omega
 have hWl := Z0.lt
 rw [← HV.out]
 clear HV D3 hz0 hz1 e0 hnn hw HW
 generalize w3.heap.size = g at hgW hgB KV ⊢
 have hg0 : w0.heap.size ≤ g := by omega
 have hgw : ¬ g = w.heap.size := by omega
 have hgw' : ¬ w.heap.size = g := by omega
 go_cut [] (fun wx => CutT w0 W B a n c g wx)
 case first =>
  cases t0
  ·go_wp2
   go_meet
   case rel => exact ⟨_, _, _, KV, DV.out⟩
  ·have k0 := KV.cell 0 (by simp)
   have k1 := KV.cell 1 (by simp)
   have k2 := KV.cell 2 (by simp)
   have g0 := KV.free 0
   have g1 := KV.free 1
   have g2 := KV.free 2
   simp only [List.getElem_cons_zero, List.getElem_cons_succ] at k0 k1 k2
   go_wp2
   go_meet
   case rel => exact ⟨0, 0, 0, ((KV.set 0 (.int .i64 0) (by simp)).set 1 (.int .i64 0) (by simp)).set 2 (.int .i64 0) (by simp), ((DV.out.far hg0 hgW hgB _ _).far hg0 hgW hgB _ _).far hg0 hgW hgB _ _⟩
 case rest =>
  clear DV KV
  obtain ⟨z', x', y', KA, DA⟩ := hcut.out
  have DA : Hid (Drawn w0 W B a n c wc) := DA
  obtain ⟨wA, rfl⟩ : ∃ V, V = wc := ⟨_, rfl⟩
  clear hcut
  -- the question in slot 29
  go_wp2_with fail
  refine (once_any B a n c w0 wA DA.out.b hB DA.out.k hS hn 6 (by decide) (by decide)).mono ?_
  rintro e w5 ⟨t, rfl, d5⟩
  have D5 : Hid (Drawn w0 W B a n c w5) := DA.out.then d5
  have K5 := KA.only d5.o hgB
  have h5g : g < w5.heap.size := K5.lt
  clear d5 DA KA
  go_upto_if 29 with fail
  go_cut [] (fun wx => CutT w0 W B a n c g wx)
  case first =>
   cases t
   ·go_wp2
    go_meet
    case rel => exact ⟨z', x', y', K5, D5.out⟩
   ·go_wp2_with fail
    refine (below_any B a n c w0 w5 D5.out.b hB D5.out.k hS hn N (by omega) (by omega)).mono ?_
    rintro e w7 ⟨m, rfl, _, d7⟩
    have D7 : Hid (Drawn w0 W B a n c w7) := D5.out.then d7
    have K7 := K5.only d7.o hgB
    clear d7 D5 K5
    have k0 := K7.cell 0 (by simp)
    have k1 := K7.cell 1 (by simp)
    have k2 := K7.cell 2 (by simp)
    have g1 := K7.free 1
    simp only [List.getElem_cons_zero, List.getElem_cons_succ] at k0 k1 k2
    go_wp2
    go_meet
    case rel => exact ⟨z', m, y', K7.set 1 (.int .i64 m) (by simp), D7.out.far hg0 hgW hgB _ _⟩
  case rest =>
   clear K5 D5 h5g
   obtain ⟨z', x', y', KA, DA⟩ := hcut.out
   have DA : Hid (Drawn w0 W B a n c wc) := DA
   obtain ⟨wA, rfl⟩ : ∃ V, V = wc := ⟨_, rfl⟩
   clear hcut
   -- the question in slot 35
   go_wp2_with fail
   refine (once_any B a n c w0 wA DA.out.b hB DA.out.k hS hn 20 (by decide) (by decide)).mono ?_
   rintro e w5 ⟨t, rfl, d5⟩
   have D5 : Hid (Drawn w0 W B a n c w5) := DA.out.then d5
   have K5 := KA.only d5.o hgB
   have h5g : g < w5.heap.size := K5.lt
   clear d5 DA KA
   go_upto_if 35 with fail
   go_cut [] (fun wx => CutT w0 W B a n c g wx)
   case first =>
    cases t
    ·go_wp2
     go_meet
     case rel => exact ⟨z', x', y', K5, D5.out⟩
    ·obtain ⟨U, HU⟩ : ∃ U, Hid (U = w5.alloc (.cells #[.int .i64 (-1), .int .i64 N, .int .i64 (N - 1)] 2)) := ⟨_, (rfl : w5.alloc (.cells #[.int .i64 (-1), .int .i64 N, .int .i64 (N - 1)] 2) = _)⟩
     have LU : Blk U w5.heap.size [.int .i64 (-1), .int .i64 N, .int .i64 (N - 1)] := by rw [HU.out]; exact Blk.new w5 [.int .i64 (-1), .int .i64 N, .int .i64 (N - 1)] _
     have D6 : Hid (Drawn w0 W B a n c U) := by rw [HU.out]; exact D5.out.alcB _
     have K6 : Blk U g [.int .i64 z', .int .i64 x', .int .i64 y'] := by rw [HU.out]; exact K5.bel (bel_alloc (Bel.refl _) _)
     have hl5 : w5.heap.size ≠ B := by have := D5.out.k.lt; omega
     have hgl : ¬ g = w5.heap.size := by omega
     have hlg : ¬ w5.heap.size = g := by omega
     clear D5 K5
     go_wp2_with fail
     rw [← HU.out]
     refine (below_any B a n c w0 U D6.out.b hB D6.out.k hS hn 3 (by decide) (by decide)).mono ?_
     rintro e w7 ⟨m, rfl, ⟨m0, m1⟩, d7⟩
     have D7 : Hid (Drawn w0 W B a n c w7) := D6.out.then d7
     have K7 := K6.only d7.o hgB
     have L7 := LU.only d7.o hl5
     clear d7 D6 K6 LU HU
     have l0 := L7.cell 0 (by simp)
     have l1 := L7.cell 1 (by simp)
     have l2 := L7.cell 2 (by simp)
     simp only [List.getElem_cons_zero, List.getElem_cons_succ] at l0 l1 l2
     have k0 := K7.cell 0 (by simp)
     have k1 := K7.cell 1 (by simp)
     have k2 := K7.cell 2 (by simp)
     have g2 := K7.free 2
     simp only [List.getElem_cons_zero, List.getElem_cons_succ] at k0 k1 k2
     rcases (show m = 0 ∨ m = 1 ∨ m = 2 by omega) with rfl | rfl | rfl
     ·go_wp2
      go_meet
      case rel => exact ⟨z', x', _, K7.set 2 (.int .i64 (-1)) (by simp), D7.out.far hg0 hgW hgB _ _⟩
     ·go_wp2
      go_meet
      case rel => exact ⟨z', x', _, K7.set 2 (.int .i64 N) (by simp), D7.out.far hg0 hgW hgB _ _⟩
     ·go_wp2
      go_meet
      case rel => exact ⟨z', x', _, K7.set 2 (.int .i64 (N - 1)) (by simp), D7.out.far hg0 hgW hgB _ _⟩
   case rest =>
    clear K5 D5 h5g
    obtain ⟨z', x', y', KA, DA⟩ := hcut.out
    have DA : Hid (Drawn w0 W B a n c wc) := DA
    obtain ⟨wA, rfl⟩ : ∃ V, V = wc := ⟨_, rfl⟩
    clear hcut
    -- the question in slot 46
    go_wp2_with fail
    refine (once_any B a n c w0 wA DA.out.b hB DA.out.k hS hn 30 (by decide) (by decide)).mono ?_
    rintro e w5 ⟨t, rfl, d5⟩
    have D5 : Hid (Drawn w0 W B a n c w5) := DA.out.then d5
    have K5 := KA.only d5.o hgB
    have h5g : g < w5.heap.size := K5.lt
    clear d5 DA KA
    go_upto_if 46 with fail
    go_cut [] (fun wx => CutT w0 W B a n c g wx)
    case first =>
     cases t
     ·go_wp2
      go_meet
      case rel => exact ⟨z', x', y', K5, D5.out⟩
     ·obtain ⟨U, HU⟩ : ∃ U, Hid (U = w5.alloc (.cells #[.int .i64 (-1), .int .i64 11, .int .i64 4611686018427387904] 2)) := ⟨_, (rfl : w5.alloc (.cells #[.int .i64 (-1), .int .i64 11, .int .i64 4611686018427387904] 2) = _)⟩
      have LU : Blk U w5.heap.size [.int .i64 (-1), .int .i64 11, .int .i64 4611686018427387904] := by rw [HU.out]; exact Blk.new w5 [.int .i64 (-1), .int .i64 11, .int .i64 4611686018427387904] _
      have D6 : Hid (Drawn w0 W B a n c U) := by rw [HU.out]; exact D5.out.alcB _
      have K6 : Blk U g [.int .i64 z', .int .i64 x', .int .i64 y'] := by rw [HU.out]; exact K5.bel (bel_alloc (Bel.refl _) _)
      have hl5 : w5.heap.size ≠ B := by have := D5.out.k.lt; omega
      have hgl : ¬ g = w5.heap.size := by omega
      have hlg : ¬ w5.heap.size = g := by omega
      clear D5 K5
      go_wp2_with fail
      rw [← HU.out]
      refine (below_any B a n c w0 U D6.out.b hB D6.out.k hS hn 3 (by decide) (by decide)).mono ?_
      rintro e w7 ⟨m, rfl, ⟨m0, m1⟩, d7⟩
      have D7 : Hid (Drawn w0 W B a n c w7) := D6.out.then d7
      have K7 := K6.only d7.o hgB
      have L7 := LU.only d7.o hl5
      clear d7 D6 K6 LU HU
      have l0 := L7.cell 0 (by simp)
      have l1 := L7.cell 1 (by simp)
      have l2 := L7.cell 2 (by simp)
      simp only [List.getElem_cons_zero, List.getElem_cons_succ] at l0 l1 l2
      have k0 := K7.cell 0 (by simp)
      have k1 := K7.cell 1 (by simp)
      have k2 := K7.cell 2 (by simp)
      have g0 := K7.free 0
      simp only [List.getElem_cons_zero, List.getElem_cons_succ] at k0 k1 k2
      rcases (show m = 0 ∨ m = 1 ∨ m = 2 by omega) with rfl | rfl | rfl
      ·go_wp2
       go_meet
       case rel => exact ⟨_, x', y', K7.set 0 (.int .i64 (-1)) (by simp), D7.out.far hg0 hgW hgB _ _⟩
      ·go_wp2
       go_meet
       case rel => exact ⟨_, x', y', K7.set 0 (.int .i64 11) (by simp), D7.out.far hg0 hgW hgB _ _⟩
      ·go_wp2
       go_meet
       case rel => exact ⟨_, x', y', K7.set 0 (.int .i64 4611686018427387904) (by simp), D7.out.far hg0 hgW hgB _ _⟩
    case rest =>
     clear K5 D5 h5g
     obtain ⟨z', x', y', KA, DA⟩ := hcut.out
     have DA : Hid (Drawn w0 W B a n c wc) := DA
     obtain ⟨wA, rfl⟩ : ∃ V, V = wc := ⟨_, rfl⟩
     clear hcut
     have k0 := KA.cell 0 (by simp)
     have k1 := KA.cell 1 (by simp)
     have k2 := KA.cell 2 (by simp)
     have Y := Z0.only DA.out.o hRB
     have z0 := Y.cell 0 (by simp)
     have z1 := Y.cell 1 (by simp)
     have z2 := Y.cell 2 (by simp)
     have f0 := Y.free 0
     have f1 := Y.free 1
     have f2 := Y.free 2
     simp only [List.getElem_cons_zero, List.getElem_cons_succ] at k0 k1 k2 z0 z1 z2
     go_wp2
     exact bodyPost_ret (v := til z' x' y') (by simp [results, Try.results25, go_sem, z0, z1, z2]) rfl ⟨z', x', y', rfl, (((DA.out.from hW).far hw0 (Nat.le_refl _) hRB _ _).far hw0 (Nat.le_refl _) hRB _ _).far hw0 (Nat.le_refl _) hRB _ _⟩

end Go.Proofs.Ytkmccjjghpnejaa
