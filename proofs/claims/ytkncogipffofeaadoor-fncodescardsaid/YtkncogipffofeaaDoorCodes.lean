/-
  PROVED: for every row of bytes the law FnCodes says true.
-/
import Derived.Test.YtkncogipffofeaaDoorDrawQ
import Derived.Test.YtkncogipffofeaaDoorOpenB
namespace Go.Proofs.YtkncogipffofeaaDoor
open Go.ChangeShapes Go.WideShapes Go.ChangeAt Go.RowKit Go.Joins

/-- A box lies in a block. -/
structure Bx (w : World) (b : Nat) (x0 y0 x1 y1 : Int) : Prop where
  c0 : w.cell? ⟨b, 0, none⟩ = some (.int .i64 x0)
  c1 : w.cell? ⟨b, 1, none⟩ = some (.int .i64 y0)
  c2 : w.cell? ⟨b, 2, none⟩ = some (.int .i64 x1)
  c3 : w.cell? ⟨b, 3, none⟩ = some (.int .i64 y1)
  lt : b < w.heap.size
theorem Bx.new (w : World) (x0 y0 x1 y1 : Int) (t : TypeId) : Bx (w.alloc (.cells #[.int .i64 x0, .int .i64 y0, .int .i64 x1, .int .i64 y1] t)) w.heap.size x0 y0 x1 y1 := ⟨by simp [go_sem], by simp [go_sem], by simp [go_sem], by simp [go_sem], by simp⟩
theorem Bx.bel {w w' : World} {b : Nat} {x0 y0 x1 y1 : Int} (h : Bx w b x0 y0 x1 y1) (k : Bel w w') : Bx w' b x0 y0 x1 y1 := ⟨cur_cell k h.lt h.c0, cur_cell k h.lt h.c1, cur_cell k h.lt h.c2, cur_cell k h.lt h.c3, bel_lt k h.lt⟩

set_option maxRecDepth 100000 in
set_option maxHeartbeats 8000000 in
theorem lawFnCodes_any (a : Option Addr) (n c : Nat) (w : World) (hT : SpTab w) (hG : GtTab w) (hS : Bts w a n) (_hm : n ≤ 9223372036854775807) :
    Calls Tryd.prog 3 #[.slice a n c] w fun e w' => e = .returned (.bool true) ∧ Bel w w' := by
  by_cases hn : n ≤ 1048576
  · have hbig : decide (1048576 < (n : Int)) = false := by simp; omega
    have HT : Hid (SpTab w) := hT
    have HG : Hid (GtTab w) := hG
    have HS : Hid (Bts w a n) := hS
    clear hT hG hS
    go_enter Tryd.func3, Tryd.ntmps3
    go_wp2_with fail
    refine (big_any _ _ _ _).mono ?_
    rintro e w1 ⟨rfl, rfl⟩
    rw [hbig]
    clear hbig
    go_wp2_with fail
    refine (drawCodeOf_any _ _ _ _ HS.out hn).mono ?_
    rintro e w2 ⟨x, y, rfl, hb2⟩
    obtain ⟨W, HW⟩ : ∃ W, Hid (W = w2.alloc (.cells #[.int .i64 x, .int .i64 y] 25)) := ⟨_, (rfl : w2.alloc (.cells #[.int .i64 x, .int .i64 y] 25) = _)⟩
    have P0 : Pa W w2.heap.size x y := by rw [HW.out]; exact Pa.new w2 x y _
    have BW : Bel w1 W := by rw [HW.out]; exact bel_alloc hb2 _
    go_wp2_with fail
    rw [← HW.out]
    refine (codeOf_any 1 0 W (HT.out.bel BW)).mono ?_
    rintro e w3 ⟨rfl, g3⟩
    have P0 := P0.bel g3
    have B3 := bel_step BW g3
    clear hb2 HW BW
    go_wp2_with fail
    refine (codeOf_any 0 0 w3 (HT.out.bel B3)).mono ?_
    rintro e w4 ⟨rfl, g4⟩
    have P0 := P0.bel g4
    have B4 := bel_step B3 g4
    rw [cod_one]
    obtain ⟨z0, z1⟩ := cod_zero
    generalize cod 0 0 = z at z0 z1 ⊢
    have hz : IntKind.u64.wrap (z + 1) = z + 1 := by rw [IntKind.wrap_u64]; omega
    have c0 := P0.c0
    have c1 := P0.c1
    clear g3 B3 g4
    go_wp2_with fail
    refine (pointOk_any x y w4).mono ?_
    rintro e w5 ⟨rfl, g5⟩
    have P0 := P0.bel g5
    have c0 := P0.c0
    have c1 := P0.c1
    have B5 := bel_step B4 g5
    clear B4 g5 z0 z1
    by_cases pa : pok x y = true
    · obtain ⟨N0, N1, N2, N3⟩ := pof_cod pa
      go_wp2_with fail
      refine (codeOf_any x y w5 (HT.out.bel B5)).mono ?_
      rintro e w6 ⟨rfl, g6⟩
      rw [cod_nat pa]
      generalize cdN x y = N at N0 N1 N2 N3 ⊢
      have P0 := P0.bel g6
      have B6 := bel_step B5 g6
      go_wp2_with fail
      refine (pointOf_any N w6 (HG.out.bel B6) N0).mono ?_
      rintro e w7 ⟨rfl, g7⟩
      rw [N1, N2, N3]
      have P0 := (P0.bel g7).bel (bel_alloc (Bel.refl w7) (.cells #[.int .i64 x, .int .i64 y] 25))
      have P1 := Pa.new w7 x y 25
      have B7 := bel_alloc (bel_step B6 g7) (.cells #[.int .i64 x, .int .i64 y] 25)
      have c0 := P0.c0
      have c1 := P0.c1
      have c2 := P1.c0
      have c3 := P1.c1
      clear g6 g7 B5 B6 N0 N1 N2 N3
      go_wp2_with fail
      clear c0 c1 c2 c3 P0 P1
      generalize w7.alloc (.cells #[.int .i64 x, .int .i64 y] 25) = wX at B7 ⊢
      refine (drawPointOf_any _ _ _ wX (HS.out.bel B7) hn).mono ?_
      rintro e v1 ⟨k, rfl, hk, h1⟩
      have C1 := bel_step B7 h1
      go_wp2_with fail
      refine (pointOf_any k v1 (HG.out.bel C1) hk).mono ?_
      rintro e v2 ⟨rfl, h2⟩
      have C2 := bel_step C1 h2
      clear C1 h1 h2 B7
      by_cases pk : pofB k = true
      · have HK : Hid (cod (pofX k) (pofY k) = (k : Int)) := cod_pof pk
        rw [pk]
        generalize pofX k = rx at HK ⊢
        generalize pofY k = ry at HK ⊢
        have R0 := Pa.new v2 rx ry 25
        have C3 := bel_alloc C2 (.cells #[.int .i64 rx, .int .i64 ry] 25)
        have r0 := R0.c0
        have r1 := R0.c1
        clear C2
        go_wp2_with fail
        refine (codeOf_any rx ry _ (HT.out.bel C3)).mono ?_
        rintro e v3 ⟨rfl, h3⟩
        rw [HK.out]
        have CY := bel_step C3 h3
        clear C3 h3 r0 r1 R0 HK
        go_wp2_with fail
        refine (drawCellBox_any _ _ _ v3 (HS.out.bel CY) hn).mono ?_
        rintro e u1 ⟨q, l, rfl, hq, i1⟩
        obtain ⟨U, HU⟩ : ∃ V, Hid (V = u1.alloc (.cells #[.int .u64 (q : Int), .int .i64 l] 34)) := ⟨_, (rfl : u1.alloc (.cells #[.int .u64 (q : Int), .int .i64 l] 34) = _)⟩
        have BU : Bel w1 U := by rw [HU.out]; exact bel_alloc (bel_step CY i1) _
        have S0 : U.cell? ⟨u1.heap.size, 0, none⟩ = some (.int .u64 (q : Int)) ∧ U.cell? ⟨u1.heap.size, 1, none⟩ = some (.int .i64 l) ∧ u1.heap.size < U.heap.size := by rw [HU.out]; exact ⟨by simp [go_sem], by simp [go_sem], by simp⟩
        have s0 := S0.1
        have s1 := S0.2.1
        clear CY i1
        by_cases l0 : l < 0
        · rw [HU.out] at s0 s1 BU
          go_wp2
          go_ret
          exact ⟨rfl, BU⟩
        · by_cases l1 : 24 < l
          · rw [HU.out] at s0 s1 BU
            go_wp2
            go_ret
            exact ⟨rfl, BU⟩
          · obtain ⟨L, rfl⟩ : ∃ L : Nat, l = L := ⟨l.toNat, by omega⟩
            by_cases hkq : q < 2 ^ (2 * L)
            · have hE : (q : Int) / 2 ^ (2 * L) = 0 := div_pow_lt hkq
              obtain ⟨m, hm⟩ : ∃ m, L + (m + 1) = 25 := ⟨24 - L, by omega⟩
              obtain ⟨e1, e2, e3, e4, e5, ⟨e6, e7⟩, e8, e9⟩ := cells_all hm hkq
              have hq2 : q < 281474976710656 := Nat.lt_of_lt_of_le hkq (Nat.pow_le_pow_right (by decide) (show 2 * L ≤ 48 by omega))
              have w4 : IntKind.u64.wrap ((q : Int) * 4) = ((4 * q : Nat) : Int) := by rw [IntKind.wrap_u64]; omega
              have w5 : IntKind.u64.wrap (((4 * q : Nat) : Int) + 3) = ((4 * q + 3 : Nat) : Int) := by rw [IntKind.wrap_u64]; omega
              have HE : Hid (cbA (4 * q) ((L : Int) + 1) = cbA q L ∧ cbB (4 * q) ((L : Int) + 1) = cbB q L ∧ cbC (4 * q + 3) ((L : Int) + 1) = cbC q L ∧ cbD (4 * q + 3) ((L : Int) + 1) = cbD q L ∧ cbC q L - cbA q L = 2 * (cbC (4 * q) ((L : Int) + 1) - cbA q L) + 1) := ⟨e1, e2, e3, e4, e5⟩
              clear e1 e2 e3 e4 e5 hkq hm
              have s0' := s0
              have s1' := s1
              rw [HU.out] at s0' s1'
              go_wp2_with fail
              rw [← HU.out]
              clear s0' s1'
              refine (cellBox_any q L U (HG.out.bel BU)).mono ?_
              rintro e u2 ⟨rfl, i2⟩
              have t0 := cur_cell (bel_alloc i2 (.cells #[.int .i64 (cbA q L), .int .i64 (cbB q L), .int .i64 (cbC q L), .int .i64 (cbD q L)] 38)) S0.2.2 s0
              have t1 := cur_cell (bel_alloc i2 (.cells #[.int .i64 (cbA q L), .int .i64 (cbB q L), .int .i64 (cbC q L), .int .i64 (cbD q L)] 38)) S0.2.2 s1
              have I2 := bel_alloc i2 (.cells #[.int .i64 (cbA q L), .int .i64 (cbB q L), .int .i64 (cbC q L), .int .i64 (cbD q L)] 38)
              obtain ⟨h1, h2, h3, h4, h5⟩ := HE.out
              clear HE
              generalize cbA q L = A at *
              generalize cbB q L = D at *
              generalize cbC q L = C at *
              generalize cbD q L = E at *
              have HF : Hid (cbA (4 * q) ((L : Int) + 1) = A ∧ cbB (4 * q) ((L : Int) + 1) = D ∧ cbC (4 * q + 3) ((L : Int) + 1) = C ∧ cbD (4 * q + 3) ((L : Int) + 1) = E) := ⟨h1, h2, h3, h4⟩
              clear h1 h2 h3 h4
              have X0 : Bx (u2.alloc (.cells #[.int .i64 A, .int .i64 D, .int .i64 C, .int .i64 E] 38)) u2.heap.size A D C E := Bx.new u2 A D C E _
              go_wp2_with fail
              rw [show (4 : Int) * (q : Int) = ((4 * q : Nat) : Int) by omega]
              refine (cellBox_any (4 * q) ((L : Int) + 1) _ (HG.out.bel (bel_step BU I2))).mono ?_
              rintro e u3 ⟨rfl, i3⟩
              rw [HF.out.1, HF.out.2.1]
              generalize cbC (4 * q) ((L : Int) + 1) = C2 at *
              generalize cbD (4 * q) ((L : Int) + 1) = E2 at *
              have I3 := bel_alloc (bel_step I2 i3) (.cells #[.int .i64 A, .int .i64 D, .int .i64 C2, .int .i64 E2] 38)
              have X0 := X0.bel (bel_alloc i3 (.cells #[.int .i64 A, .int .i64 D, .int .i64 C2, .int .i64 E2] 38))
              have X1 : Bx (u3.alloc (.cells #[.int .i64 A, .int .i64 D, .int .i64 C2, .int .i64 E2] 38)) u3.heap.size A D C2 E2 := Bx.new u3 A D C2 E2 _
              have t0 := cur_cell I3 S0.2.2 s0
              have t1 := cur_cell I3 S0.2.2 s1
              go_wp2_with fail
              rw [show (4 : Int) * (q : Int) + 3 = ((4 * q + 3 : Nat) : Int) by omega]
              refine (cellBox_any (4 * q + 3) ((L : Int) + 1) _ (HG.out.bel (bel_step BU I3))).mono ?_
              rintro e u4 ⟨rfl, i4⟩
              rw [HF.out.2.2.1, HF.out.2.2.2]
              generalize cbA (4 * q + 3) ((L : Int) + 1) = A3
              generalize cbB (4 * q + 3) ((L : Int) + 1) = D3
              have I4 := bel_alloc (bel_step I3 i4) (.cells #[.int .i64 A3, .int .i64 D3, .int .i64 C, .int .i64 E] 38)
              have X0 := X0.bel (bel_alloc i4 (.cells #[.int .i64 A3, .int .i64 D3, .int .i64 C, .int .i64 E] 38))
              have X1 := X1.bel (bel_alloc i4 (.cells #[.int .i64 A3, .int .i64 D3, .int .i64 C, .int .i64 E] 38))
              have X2 : Bx (u4.alloc (.cells #[.int .i64 A3, .int .i64 D3, .int .i64 C, .int .i64 E] 38)) u4.heap.size A3 D3 C E := Bx.new u4 A3 D3 C E _
              have B4 := bel_step BU I4
              obtain ⟨a0, a1, a2, a3, _⟩ := X0
              obtain ⟨b0, b1, b2, b3, _⟩ := X1
              obtain ⟨d0, d1, d2, d3, _⟩ := X2
              clear I2 I3 I4 i2 i3 i4 HF t0 t1 s0 s1 S0 HU BU
              have g1 : wrap64 (C - A) = C - A := by unfold wrap64; omega
              have g2 : wrap64 (C2 - A) = C2 - A := by unfold wrap64; omega
              have g3 : wrap64 (2 * (C2 - A)) = 2 * (C2 - A) := by unfold wrap64; omega
              have g4 : wrap64 (2 * (C2 - A) + 1) = 2 * (C2 - A) + 1 := by unfold wrap64; omega
              go_wp2
              go_ret
              exact ⟨rfl, B4⟩
            · obtain ⟨d, hE, hd⟩ : ∃ d : Int, (q : Int) / 2 ^ (2 * L) = d ∧ ¬ d = 0 := ⟨_, rfl, div_pow_ge hkq⟩
              have hd' : (d == 0) = false := by simpa using hd
              have hd2 : (d != 0) = true := by simpa using hd
              have hd3 : ((q : Int) / 2 ^ (2 * L) == 0) = false := by rw [hE]; exact hd'
              have hd4 : ((q : Int) / 2 ^ (2 * L) != 0) = true := by rw [hE]; exact hd2
              clear hkq
              rw [HU.out] at s0 s1 BU
              go_wp2
              go_ret
              exact ⟨rfl, BU⟩
      · have pk : pofB k = false := by simpa using pk
        rw [pk]
        have C3 := bel_alloc C2 (.cells #[.int .i64 (pofX k), .int .i64 (pofY k)] 25)
        clear C2
        go_wp2_with fail
        obtain ⟨v3, hv3⟩ : ∃ V, Hid (V = v2.alloc (.cells #[.int .i64 (pofX k), .int .i64 (pofY k)] 25)) := ⟨_, (rfl : v2.alloc (.cells #[.int .i64 (pofX k), .int .i64 (pofY k)] 25) = _)⟩
        rw [← hv3.out] at C3 ⊢
        have CY := C3
        clear C3 hv3
        refine (drawCellBox_any _ _ _ v3 (HS.out.bel CY) hn).mono ?_
        rintro e u1 ⟨q, l, rfl, hq, i1⟩
        obtain ⟨U, HU⟩ : ∃ V, Hid (V = u1.alloc (.cells #[.int .u64 (q : Int), .int .i64 l] 34)) := ⟨_, (rfl : u1.alloc (.cells #[.int .u64 (q : Int), .int .i64 l] 34) = _)⟩
        have BU : Bel w1 U := by rw [HU.out]; exact bel_alloc (bel_step CY i1) _
        have S0 : U.cell? ⟨u1.heap.size, 0, none⟩ = some (.int .u64 (q : Int)) ∧ U.cell? ⟨u1.heap.size, 1, none⟩ = some (.int .i64 l) ∧ u1.heap.size < U.heap.size := by rw [HU.out]; exact ⟨by simp [go_sem], by simp [go_sem], by simp⟩
        have s0 := S0.1
        have s1 := S0.2.1
        clear CY i1
        by_cases l0 : l < 0
        · rw [HU.out] at s0 s1 BU
          go_wp2
          go_ret
          exact ⟨rfl, BU⟩
        · by_cases l1 : 24 < l
          · rw [HU.out] at s0 s1 BU
            go_wp2
            go_ret
            exact ⟨rfl, BU⟩
          · obtain ⟨L, rfl⟩ : ∃ L : Nat, l = L := ⟨l.toNat, by omega⟩
            by_cases hkq : q < 2 ^ (2 * L)
            · have hE : (q : Int) / 2 ^ (2 * L) = 0 := div_pow_lt hkq
              obtain ⟨m, hm⟩ : ∃ m, L + (m + 1) = 25 := ⟨24 - L, by omega⟩
              obtain ⟨e1, e2, e3, e4, e5, ⟨e6, e7⟩, e8, e9⟩ := cells_all hm hkq
              have hq2 : q < 281474976710656 := Nat.lt_of_lt_of_le hkq (Nat.pow_le_pow_right (by decide) (show 2 * L ≤ 48 by omega))
              have w4 : IntKind.u64.wrap ((q : Int) * 4) = ((4 * q : Nat) : Int) := by rw [IntKind.wrap_u64]; omega
              have w5 : IntKind.u64.wrap (((4 * q : Nat) : Int) + 3) = ((4 * q + 3 : Nat) : Int) := by rw [IntKind.wrap_u64]; omega
              have HE : Hid (cbA (4 * q) ((L : Int) + 1) = cbA q L ∧ cbB (4 * q) ((L : Int) + 1) = cbB q L ∧ cbC (4 * q + 3) ((L : Int) + 1) = cbC q L ∧ cbD (4 * q + 3) ((L : Int) + 1) = cbD q L ∧ cbC q L - cbA q L = 2 * (cbC (4 * q) ((L : Int) + 1) - cbA q L) + 1) := ⟨e1, e2, e3, e4, e5⟩
              clear e1 e2 e3 e4 e5 hkq hm
              have s0' := s0
              have s1' := s1
              rw [HU.out] at s0' s1'
              go_wp2_with fail
              rw [← HU.out]
              clear s0' s1'
              refine (cellBox_any q L U (HG.out.bel BU)).mono ?_
              rintro e u2 ⟨rfl, i2⟩
              have t0 := cur_cell (bel_alloc i2 (.cells #[.int .i64 (cbA q L), .int .i64 (cbB q L), .int .i64 (cbC q L), .int .i64 (cbD q L)] 38)) S0.2.2 s0
              have t1 := cur_cell (bel_alloc i2 (.cells #[.int .i64 (cbA q L), .int .i64 (cbB q L), .int .i64 (cbC q L), .int .i64 (cbD q L)] 38)) S0.2.2 s1
              have I2 := bel_alloc i2 (.cells #[.int .i64 (cbA q L), .int .i64 (cbB q L), .int .i64 (cbC q L), .int .i64 (cbD q L)] 38)
              obtain ⟨h1, h2, h3, h4, h5⟩ := HE.out
              clear HE
              generalize cbA q L = A at *
              generalize cbB q L = D at *
              generalize cbC q L = C at *
              generalize cbD q L = E at *
              have HF : Hid (cbA (4 * q) ((L : Int) + 1) = A ∧ cbB (4 * q) ((L : Int) + 1) = D ∧ cbC (4 * q + 3) ((L : Int) + 1) = C ∧ cbD (4 * q + 3) ((L : Int) + 1) = E) := ⟨h1, h2, h3, h4⟩
              clear h1 h2 h3 h4
              have X0 : Bx (u2.alloc (.cells #[.int .i64 A, .int .i64 D, .int .i64 C, .int .i64 E] 38)) u2.heap.size A D C E := Bx.new u2 A D C E _
              go_wp2_with fail
              rw [show (4 : Int) * (q : Int) = ((4 * q : Nat) : Int) by omega]
              refine (cellBox_any (4 * q) ((L : Int) + 1) _ (HG.out.bel (bel_step BU I2))).mono ?_
              rintro e u3 ⟨rfl, i3⟩
              rw [HF.out.1, HF.out.2.1]
              generalize cbC (4 * q) ((L : Int) + 1) = C2 at *
              generalize cbD (4 * q) ((L : Int) + 1) = E2 at *
              have I3 := bel_alloc (bel_step I2 i3) (.cells #[.int .i64 A, .int .i64 D, .int .i64 C2, .int .i64 E2] 38)
              have X0 := X0.bel (bel_alloc i3 (.cells #[.int .i64 A, .int .i64 D, .int .i64 C2, .int .i64 E2] 38))
              have X1 : Bx (u3.alloc (.cells #[.int .i64 A, .int .i64 D, .int .i64 C2, .int .i64 E2] 38)) u3.heap.size A D C2 E2 := Bx.new u3 A D C2 E2 _
              have t0 := cur_cell I3 S0.2.2 s0
              have t1 := cur_cell I3 S0.2.2 s1
              go_wp2_with fail
              rw [show (4 : Int) * (q : Int) + 3 = ((4 * q + 3 : Nat) : Int) by omega]
              refine (cellBox_any (4 * q + 3) ((L : Int) + 1) _ (HG.out.bel (bel_step BU I3))).mono ?_
              rintro e u4 ⟨rfl, i4⟩
              rw [HF.out.2.2.1, HF.out.2.2.2]
              generalize cbA (4 * q + 3) ((L : Int) + 1) = A3
              generalize cbB (4 * q + 3) ((L : Int) + 1) = D3
              have I4 := bel_alloc (bel_step I3 i4) (.cells #[.int .i64 A3, .int .i64 D3, .int .i64 C, .int .i64 E] 38)
              have X0 := X0.bel (bel_alloc i4 (.cells #[.int .i64 A3, .int .i64 D3, .int .i64 C, .int .i64 E] 38))
              have X1 := X1.bel (bel_alloc i4 (.cells #[.int .i64 A3, .int .i64 D3, .int .i64 C, .int .i64 E] 38))
              have X2 : Bx (u4.alloc (.cells #[.int .i64 A3, .int .i64 D3, .int .i64 C, .int .i64 E] 38)) u4.heap.size A3 D3 C E := Bx.new u4 A3 D3 C E _
              have B4 := bel_step BU I4
              obtain ⟨a0, a1, a2, a3, _⟩ := X0
              obtain ⟨b0, b1, b2, b3, _⟩ := X1
              obtain ⟨d0, d1, d2, d3, _⟩ := X2
              clear I2 I3 I4 i2 i3 i4 HF t0 t1 s0 s1 S0 HU BU
              have g1 : wrap64 (C - A) = C - A := by unfold wrap64; omega
              have g2 : wrap64 (C2 - A) = C2 - A := by unfold wrap64; omega
              have g3 : wrap64 (2 * (C2 - A)) = 2 * (C2 - A) := by unfold wrap64; omega
              have g4 : wrap64 (2 * (C2 - A) + 1) = 2 * (C2 - A) + 1 := by unfold wrap64; omega
              go_wp2
              go_ret
              exact ⟨rfl, B4⟩
            · obtain ⟨d, hE, hd⟩ : ∃ d : Int, (q : Int) / 2 ^ (2 * L) = d ∧ ¬ d = 0 := ⟨_, rfl, div_pow_ge hkq⟩
              have hd' : (d == 0) = false := by simpa using hd
              have hd2 : (d != 0) = true := by simpa using hd
              have hd3 : ((q : Int) / 2 ^ (2 * L) == 0) = false := by rw [hE]; exact hd'
              have hd4 : ((q : Int) / 2 ^ (2 * L) != 0) = true := by rw [hE]; exact hd2
              clear hkq
              rw [HU.out] at s0 s1 BU
              go_wp2
              go_ret
              exact ⟨rfl, BU⟩
    · have pa : pok x y = false := by simpa using pa
      go_wp2_with fail
      clear c0 c1 P0
      obtain ⟨wX, hX⟩ : ∃ V : World, V = w5 := ⟨_, rfl⟩
      subst hX
      have B7 := B5
      clear B5
      refine (drawPointOf_any _ _ _ wX (HS.out.bel B7) hn).mono ?_
      rintro e v1 ⟨k, rfl, hk, h1⟩
      have C1 := bel_step B7 h1
      go_wp2_with fail
      refine (pointOf_any k v1 (HG.out.bel C1) hk).mono ?_
      rintro e v2 ⟨rfl, h2⟩
      have C2 := bel_step C1 h2
      clear C1 h1 h2 B7
      by_cases pk : pofB k = true
      · have HK : Hid (cod (pofX k) (pofY k) = (k : Int)) := cod_pof pk
        rw [pk]
        generalize pofX k = rx at HK ⊢
        generalize pofY k = ry at HK ⊢
        have R0 := Pa.new v2 rx ry 25
        have C3 := bel_alloc C2 (.cells #[.int .i64 rx, .int .i64 ry] 25)
        have r0 := R0.c0
        have r1 := R0.c1
        clear C2
        go_wp2_with fail
        refine (codeOf_any rx ry _ (HT.out.bel C3)).mono ?_
        rintro e v3 ⟨rfl, h3⟩
        rw [HK.out]
        have CY := bel_step C3 h3
        clear C3 h3 r0 r1 R0 HK
        go_wp2_with fail
        refine (drawCellBox_any _ _ _ v3 (HS.out.bel CY) hn).mono ?_
        rintro e u1 ⟨q, l, rfl, hq, i1⟩
        obtain ⟨U, HU⟩ : ∃ V, Hid (V = u1.alloc (.cells #[.int .u64 (q : Int), .int .i64 l] 34)) := ⟨_, (rfl : u1.alloc (.cells #[.int .u64 (q : Int), .int .i64 l] 34) = _)⟩
        have BU : Bel w1 U := by rw [HU.out]; exact bel_alloc (bel_step CY i1) _
        have S0 : U.cell? ⟨u1.heap.size, 0, none⟩ = some (.int .u64 (q : Int)) ∧ U.cell? ⟨u1.heap.size, 1, none⟩ = some (.int .i64 l) ∧ u1.heap.size < U.heap.size := by rw [HU.out]; exact ⟨by simp [go_sem], by simp [go_sem], by simp⟩
        have s0 := S0.1
        have s1 := S0.2.1
        clear CY i1
        by_cases l0 : l < 0
        · rw [HU.out] at s0 s1 BU
          go_wp2
          go_ret
          exact ⟨rfl, BU⟩
        · by_cases l1 : 24 < l
          · rw [HU.out] at s0 s1 BU
            go_wp2
            go_ret
            exact ⟨rfl, BU⟩
          · obtain ⟨L, rfl⟩ : ∃ L : Nat, l = L := ⟨l.toNat, by omega⟩
            by_cases hkq : q < 2 ^ (2 * L)
            · have hE : (q : Int) / 2 ^ (2 * L) = 0 := div_pow_lt hkq
              obtain ⟨m, hm⟩ : ∃ m, L + (m + 1) = 25 := ⟨24 - L, by omega⟩
              obtain ⟨e1, e2, e3, e4, e5, ⟨e6, e7⟩, e8, e9⟩ := cells_all hm hkq
              have hq2 : q < 281474976710656 := Nat.lt_of_lt_of_le hkq (Nat.pow_le_pow_right (by decide) (show 2 * L ≤ 48 by omega))
              have w4 : IntKind.u64.wrap ((q : Int) * 4) = ((4 * q : Nat) : Int) := by rw [IntKind.wrap_u64]; omega
              have w5 : IntKind.u64.wrap (((4 * q : Nat) : Int) + 3) = ((4 * q + 3 : Nat) : Int) := by rw [IntKind.wrap_u64]; omega
              have HE : Hid (cbA (4 * q) ((L : Int) + 1) = cbA q L ∧ cbB (4 * q) ((L : Int) + 1) = cbB q L ∧ cbC (4 * q + 3) ((L : Int) + 1) = cbC q L ∧ cbD (4 * q + 3) ((L : Int) + 1) = cbD q L ∧ cbC q L - cbA q L = 2 * (cbC (4 * q) ((L : Int) + 1) - cbA q L) + 1) := ⟨e1, e2, e3, e4, e5⟩
              clear e1 e2 e3 e4 e5 hkq hm
              have s0' := s0
              have s1' := s1
              rw [HU.out] at s0' s1'
              go_wp2_with fail
              rw [← HU.out]
              clear s0' s1'
              refine (cellBox_any q L U (HG.out.bel BU)).mono ?_
              rintro e u2 ⟨rfl, i2⟩
              have t0 := cur_cell (bel_alloc i2 (.cells #[.int .i64 (cbA q L), .int .i64 (cbB q L), .int .i64 (cbC q L), .int .i64 (cbD q L)] 38)) S0.2.2 s0
              have t1 := cur_cell (bel_alloc i2 (.cells #[.int .i64 (cbA q L), .int .i64 (cbB q L), .int .i64 (cbC q L), .int .i64 (cbD q L)] 38)) S0.2.2 s1
              have I2 := bel_alloc i2 (.cells #[.int .i64 (cbA q L), .int .i64 (cbB q L), .int .i64 (cbC q L), .int .i64 (cbD q L)] 38)
              obtain ⟨h1, h2, h3, h4, h5⟩ := HE.out
              clear HE
              generalize cbA q L = A at *
              generalize cbB q L = D at *
              generalize cbC q L = C at *
              generalize cbD q L = E at *
              have HF : Hid (cbA (4 * q) ((L : Int) + 1) = A ∧ cbB (4 * q) ((L : Int) + 1) = D ∧ cbC (4 * q + 3) ((L : Int) + 1) = C ∧ cbD (4 * q + 3) ((L : Int) + 1) = E) := ⟨h1, h2, h3, h4⟩
              clear h1 h2 h3 h4
              have X0 : Bx (u2.alloc (.cells #[.int .i64 A, .int .i64 D, .int .i64 C, .int .i64 E] 38)) u2.heap.size A D C E := Bx.new u2 A D C E _
              go_wp2_with fail
              rw [show (4 : Int) * (q : Int) = ((4 * q : Nat) : Int) by omega]
              refine (cellBox_any (4 * q) ((L : Int) + 1) _ (HG.out.bel (bel_step BU I2))).mono ?_
              rintro e u3 ⟨rfl, i3⟩
              rw [HF.out.1, HF.out.2.1]
              generalize cbC (4 * q) ((L : Int) + 1) = C2 at *
              generalize cbD (4 * q) ((L : Int) + 1) = E2 at *
              have I3 := bel_alloc (bel_step I2 i3) (.cells #[.int .i64 A, .int .i64 D, .int .i64 C2, .int .i64 E2] 38)
              have X0 := X0.bel (bel_alloc i3 (.cells #[.int .i64 A, .int .i64 D, .int .i64 C2, .int .i64 E2] 38))
              have X1 : Bx (u3.alloc (.cells #[.int .i64 A, .int .i64 D, .int .i64 C2, .int .i64 E2] 38)) u3.heap.size A D C2 E2 := Bx.new u3 A D C2 E2 _
              have t0 := cur_cell I3 S0.2.2 s0
              have t1 := cur_cell I3 S0.2.2 s1
              go_wp2_with fail
              rw [show (4 : Int) * (q : Int) + 3 = ((4 * q + 3 : Nat) : Int) by omega]
              refine (cellBox_any (4 * q + 3) ((L : Int) + 1) _ (HG.out.bel (bel_step BU I3))).mono ?_
              rintro e u4 ⟨rfl, i4⟩
              rw [HF.out.2.2.1, HF.out.2.2.2]
              generalize cbA (4 * q + 3) ((L : Int) + 1) = A3
              generalize cbB (4 * q + 3) ((L : Int) + 1) = D3
              have I4 := bel_alloc (bel_step I3 i4) (.cells #[.int .i64 A3, .int .i64 D3, .int .i64 C, .int .i64 E] 38)
              have X0 := X0.bel (bel_alloc i4 (.cells #[.int .i64 A3, .int .i64 D3, .int .i64 C, .int .i64 E] 38))
              have X1 := X1.bel (bel_alloc i4 (.cells #[.int .i64 A3, .int .i64 D3, .int .i64 C, .int .i64 E] 38))
              have X2 : Bx (u4.alloc (.cells #[.int .i64 A3, .int .i64 D3, .int .i64 C, .int .i64 E] 38)) u4.heap.size A3 D3 C E := Bx.new u4 A3 D3 C E _
              have B4 := bel_step BU I4
              obtain ⟨a0, a1, a2, a3, _⟩ := X0
              obtain ⟨b0, b1, b2, b3, _⟩ := X1
              obtain ⟨d0, d1, d2, d3, _⟩ := X2
              clear I2 I3 I4 i2 i3 i4 HF t0 t1 s0 s1 S0 HU BU
              have g1 : wrap64 (C - A) = C - A := by unfold wrap64; omega
              have g2 : wrap64 (C2 - A) = C2 - A := by unfold wrap64; omega
              have g3 : wrap64 (2 * (C2 - A)) = 2 * (C2 - A) := by unfold wrap64; omega
              have g4 : wrap64 (2 * (C2 - A) + 1) = 2 * (C2 - A) + 1 := by unfold wrap64; omega
              go_wp2
              go_ret
              exact ⟨rfl, B4⟩
            · obtain ⟨d, hE, hd⟩ : ∃ d : Int, (q : Int) / 2 ^ (2 * L) = d ∧ ¬ d = 0 := ⟨_, rfl, div_pow_ge hkq⟩
              have hd' : (d == 0) = false := by simpa using hd
              have hd2 : (d != 0) = true := by simpa using hd
              have hd3 : ((q : Int) / 2 ^ (2 * L) == 0) = false := by rw [hE]; exact hd'
              have hd4 : ((q : Int) / 2 ^ (2 * L) != 0) = true := by rw [hE]; exact hd2
              clear hkq
              rw [HU.out] at s0 s1 BU
              go_wp2
              go_ret
              exact ⟨rfl, BU⟩
      · have pk : pofB k = false := by simpa using pk
        rw [pk]
        have C3 := bel_alloc C2 (.cells #[.int .i64 (pofX k), .int .i64 (pofY k)] 25)
        clear C2
        go_wp2_with fail
        obtain ⟨v3, hv3⟩ : ∃ V, Hid (V = v2.alloc (.cells #[.int .i64 (pofX k), .int .i64 (pofY k)] 25)) := ⟨_, (rfl : v2.alloc (.cells #[.int .i64 (pofX k), .int .i64 (pofY k)] 25) = _)⟩
        rw [← hv3.out] at C3 ⊢
        have CY := C3
        clear C3 hv3
        refine (drawCellBox_any _ _ _ v3 (HS.out.bel CY) hn).mono ?_
        rintro e u1 ⟨q, l, rfl, hq, i1⟩
        obtain ⟨U, HU⟩ : ∃ V, Hid (V = u1.alloc (.cells #[.int .u64 (q : Int), .int .i64 l] 34)) := ⟨_, (rfl : u1.alloc (.cells #[.int .u64 (q : Int), .int .i64 l] 34) = _)⟩
        have BU : Bel w1 U := by rw [HU.out]; exact bel_alloc (bel_step CY i1) _
        have S0 : U.cell? ⟨u1.heap.size, 0, none⟩ = some (.int .u64 (q : Int)) ∧ U.cell? ⟨u1.heap.size, 1, none⟩ = some (.int .i64 l) ∧ u1.heap.size < U.heap.size := by rw [HU.out]; exact ⟨by simp [go_sem], by simp [go_sem], by simp⟩
        have s0 := S0.1
        have s1 := S0.2.1
        clear CY i1
        by_cases l0 : l < 0
        · rw [HU.out] at s0 s1 BU
          go_wp2
          go_ret
          exact ⟨rfl, BU⟩
        · by_cases l1 : 24 < l
          · rw [HU.out] at s0 s1 BU
            go_wp2
            go_ret
            exact ⟨rfl, BU⟩
          · obtain ⟨L, rfl⟩ : ∃ L : Nat, l = L := ⟨l.toNat, by omega⟩
            by_cases hkq : q < 2 ^ (2 * L)
            · have hE : (q : Int) / 2 ^ (2 * L) = 0 := div_pow_lt hkq
              obtain ⟨m, hm⟩ : ∃ m, L + (m + 1) = 25 := ⟨24 - L, by omega⟩
              obtain ⟨e1, e2, e3, e4, e5, ⟨e6, e7⟩, e8, e9⟩ := cells_all hm hkq
              have hq2 : q < 281474976710656 := Nat.lt_of_lt_of_le hkq (Nat.pow_le_pow_right (by decide) (show 2 * L ≤ 48 by omega))
              have w4 : IntKind.u64.wrap ((q : Int) * 4) = ((4 * q : Nat) : Int) := by rw [IntKind.wrap_u64]; omega
              have w5 : IntKind.u64.wrap (((4 * q : Nat) : Int) + 3) = ((4 * q + 3 : Nat) : Int) := by rw [IntKind.wrap_u64]; omega
              have HE : Hid (cbA (4 * q) ((L : Int) + 1) = cbA q L ∧ cbB (4 * q) ((L : Int) + 1) = cbB q L ∧ cbC (4 * q + 3) ((L : Int) + 1) = cbC q L ∧ cbD (4 * q + 3) ((L : Int) + 1) = cbD q L ∧ cbC q L - cbA q L = 2 * (cbC (4 * q) ((L : Int) + 1) - cbA q L) + 1) := ⟨e1, e2, e3, e4, e5⟩
              clear e1 e2 e3 e4 e5 hkq hm
              have s0' := s0
              have s1' := s1
              rw [HU.out] at s0' s1'
              go_wp2_with fail
              rw [← HU.out]
              clear s0' s1'
              refine (cellBox_any q L U (HG.out.bel BU)).mono ?_
              rintro e u2 ⟨rfl, i2⟩
              have t0 := cur_cell (bel_alloc i2 (.cells #[.int .i64 (cbA q L), .int .i64 (cbB q L), .int .i64 (cbC q L), .int .i64 (cbD q L)] 38)) S0.2.2 s0
              have t1 := cur_cell (bel_alloc i2 (.cells #[.int .i64 (cbA q L), .int .i64 (cbB q L), .int .i64 (cbC q L), .int .i64 (cbD q L)] 38)) S0.2.2 s1
              have I2 := bel_alloc i2 (.cells #[.int .i64 (cbA q L), .int .i64 (cbB q L), .int .i64 (cbC q L), .int .i64 (cbD q L)] 38)
              obtain ⟨h1, h2, h3, h4, h5⟩ := HE.out
              clear HE
              generalize cbA q L = A at *
              generalize cbB q L = D at *
              generalize cbC q L = C at *
              generalize cbD q L = E at *
              have HF : Hid (cbA (4 * q) ((L : Int) + 1) = A ∧ cbB (4 * q) ((L : Int) + 1) = D ∧ cbC (4 * q + 3) ((L : Int) + 1) = C ∧ cbD (4 * q + 3) ((L : Int) + 1) = E) := ⟨h1, h2, h3, h4⟩
              clear h1 h2 h3 h4
              have X0 : Bx (u2.alloc (.cells #[.int .i64 A, .int .i64 D, .int .i64 C, .int .i64 E] 38)) u2.heap.size A D C E := Bx.new u2 A D C E _
              go_wp2_with fail
              rw [show (4 : Int) * (q : Int) = ((4 * q : Nat) : Int) by omega]
              refine (cellBox_any (4 * q) ((L : Int) + 1) _ (HG.out.bel (bel_step BU I2))).mono ?_
              rintro e u3 ⟨rfl, i3⟩
              rw [HF.out.1, HF.out.2.1]
              generalize cbC (4 * q) ((L : Int) + 1) = C2 at *
              generalize cbD (4 * q) ((L : Int) + 1) = E2 at *
              have I3 := bel_alloc (bel_step I2 i3) (.cells #[.int .i64 A, .int .i64 D, .int .i64 C2, .int .i64 E2] 38)
              have X0 := X0.bel (bel_alloc i3 (.cells #[.int .i64 A, .int .i64 D, .int .i64 C2, .int .i64 E2] 38))
              have X1 : Bx (u3.alloc (.cells #[.int .i64 A, .int .i64 D, .int .i64 C2, .int .i64 E2] 38)) u3.heap.size A D C2 E2 := Bx.new u3 A D C2 E2 _
              have t0 := cur_cell I3 S0.2.2 s0
              have t1 := cur_cell I3 S0.2.2 s1
              go_wp2_with fail
              rw [show (4 : Int) * (q : Int) + 3 = ((4 * q + 3 : Nat) : Int) by omega]
              refine (cellBox_any (4 * q + 3) ((L : Int) + 1) _ (HG.out.bel (bel_step BU I3))).mono ?_
              rintro e u4 ⟨rfl, i4⟩
              rw [HF.out.2.2.1, HF.out.2.2.2]
              generalize cbA (4 * q + 3) ((L : Int) + 1) = A3
              generalize cbB (4 * q + 3) ((L : Int) + 1) = D3
              have I4 := bel_alloc (bel_step I3 i4) (.cells #[.int .i64 A3, .int .i64 D3, .int .i64 C, .int .i64 E] 38)
              have X0 := X0.bel (bel_alloc i4 (.cells #[.int .i64 A3, .int .i64 D3, .int .i64 C, .int .i64 E] 38))
              have X1 := X1.bel (bel_alloc i4 (.cells #[.int .i64 A3, .int .i64 D3, .int .i64 C, .int .i64 E] 38))
              have X2 : Bx (u4.alloc (.cells #[.int .i64 A3, .int .i64 D3, .int .i64 C, .int .i64 E] 38)) u4.heap.size A3 D3 C E := Bx.new u4 A3 D3 C E _
              have B4 := bel_step BU I4
              obtain ⟨a0, a1, a2, a3, _⟩ := X0
              obtain ⟨b0, b1, b2, b3, _⟩ := X1
              obtain ⟨d0, d1, d2, d3, _⟩ := X2
              clear I2 I3 I4 i2 i3 i4 HF t0 t1 s0 s1 S0 HU BU
              have g1 : wrap64 (C - A) = C - A := by unfold wrap64; omega
              have g2 : wrap64 (C2 - A) = C2 - A := by unfold wrap64; omega
              have g3 : wrap64 (2 * (C2 - A)) = 2 * (C2 - A) := by unfold wrap64; omega
              have g4 : wrap64 (2 * (C2 - A) + 1) = 2 * (C2 - A) + 1 := by unfold wrap64; omega
              go_wp2
              go_ret
              exact ⟨rfl, B4⟩
            · obtain ⟨d, hE, hd⟩ : ∃ d : Int, (q : Int) / 2 ^ (2 * L) = d ∧ ¬ d = 0 := ⟨_, rfl, div_pow_ge hkq⟩
              have hd' : (d == 0) = false := by simpa using hd
              have hd2 : (d != 0) = true := by simpa using hd
              have hd3 : ((q : Int) / 2 ^ (2 * L) == 0) = false := by rw [hE]; exact hd'
              have hd4 : ((q : Int) / 2 ^ (2 * L) != 0) = true := by rw [hE]; exact hd2
              clear hkq
              rw [HU.out] at s0 s1 BU
              go_wp2
              go_ret
              exact ⟨rfl, BU⟩
  · have hbig : decide (1048576 < (n : Int)) = true := by simp; omega
    go_enter Tryd.func3, Tryd.ntmps3
    go_wp2_with fail
    refine (big_any _ _ _ _).mono ?_
    rintro e w1 ⟨rfl, rfl⟩
    rw [hbig]
    go_wp2
    go_ret
    exact ⟨rfl, Bel.refl _⟩
end Go.Proofs.YtkncogipffofeaaDoor
