/-
  Contracts of TilesOf, in the program and in its model: for every box and every zoom.
-/
import Derived.Test.YtkknbapcbcialaaTilL
import Derived.Deep.AppendLies
namespace Go.Proofs.Ytkknbapcbcialaa
open Go.RowKit Go.Maps

theorem tilesAlong_any (z lo hi : Int) (w : World) (hz : zmB z = true) (h0 : -10000000 ≤ lo) (h1 : lo ≤ hi) (h2 : hi ≤ 10000000) :
    Calls Try.prog 43 #[.int .i64 lo, .int .i64 hi, .int .i64 z] w fun e w' => e = .returned (.tuple #[.int .i64 (tlW z lo), .int .i64 (tlE z hi)]) ∧ Bel w w' := by
  have cS := fun w' => sideAt_any z w' hz
  have s1 := (zNS hz).2.1
  have s2 := (zNS hz).2.2.2.2
  have HA : Hid (tlW z lo = (lo + 16777215) / (zS z : Int)) := (rfl : tlW z lo = (lo + 16777215) / (zS z : Int))
  have HB : Hid (tlE z hi = (hi + 16777216) / (zS z : Int)) := (rfl : tlE z hi = (hi + 16777216) / (zS z : Int))
  have b := tl_bd hz h0 h1 h2
  obtain ⟨s, hs⟩ : ∃ s, zS z = s := ⟨_, rfl⟩
  rw [hs] at cS s1 s2 HA HB
  obtain ⟨A, hA⟩ : ∃ A, tlW z lo = A := ⟨_, rfl⟩
  obtain ⟨B, hB⟩ : ∃ B, tlE z hi = B := ⟨_, rfl⟩
  rw [hA, hB] at b
  rw [hA] at HA
  rw [hB] at HB
  rw [hA, hB]
  have q1 : (lo + 16777216 - 1).tdiv (s : Int) = A := by rw [Int.tdiv_eq_ediv_of_nonneg (by omega), HA.out]; congr 1; omega
  have q2 : (hi + 16777216).tdiv (s : Int) = B := by rw [Int.tdiv_eq_ediv_of_nonneg (by omega), HB.out]
  have b0 := b.1
  have b1 := b.2.1
  have b2 := b.2.2.2
  have hs0 : ¬ (s : Int) = 0 := by omega
  have hs1 : ¬ s = 0 := by omega
  clear hA hB hs hz HA HB b
  go_enter Try.func43, Try.ntmps43
  go_wp2_with fail
  refine (cS _).mono ?_
  rintro e w1 ⟨rfl, rfl⟩
  clear cS
  go_wp2
  go_quiet (fail)
  go_wp2
  exact bodyPost_ret (v := .tuple #[.int .i64 A, .int .i64 B]) (by simp [results, Try.results43, go_sem]) rfl ⟨rfl, bel_drewN (Bel.refl _) _⟩

set_option maxHeartbeats 1000000 in
theorem l6Range_any (z lo hi : Int) (w : World) (hz : zmB z = true) (h0 : -10000000 ≤ lo) (h1 : lo ≤ hi) (h2 : hi ≤ 10000000) :
    Calls Try.prog 45 #[.int .i64 lo, .int .i64 hi, .int .i64 z] w fun e w' => e = .returned (.tuple #[.int .i64 (tlW z lo), .int .i64 (tlE z hi)]) ∧ Bel w w' := by
  have cS := fun w' => l6Side_any z w' hz
  have s1 := (zNS hz).2.1
  have s2 := (zNS hz).2.2.2.2
  have n1 := (zNS hz).2.2.2.1
  have b := tl_bd hz h0 h1 h2
  have HA1 : Hid (_ → _) := tlW_mod (lo := lo) hz (by omega)
  have HA2 : Hid (_ → _) := tlW_not (lo := lo) hz
  have HB : Hid (tlE z hi = (hi + 16777216) / (zS z : Int)) := (rfl : tlE z hi = (hi + 16777216) / (zS z : Int))
  obtain ⟨Z, rfl, hZ⟩ := zm_out hz
  have hn := zN_int Z
  obtain ⟨s, hs⟩ : ∃ s, zS (Z : Int) = s := ⟨_, rfl⟩
  rw [hs] at cS s1 s2 HA1 HA2 HB
  obtain ⟨n, hN⟩ : ∃ n, zN (Z : Int) = n := ⟨_, rfl⟩
  rw [hN] at hn n1 b
  obtain ⟨A, hA⟩ : ∃ A, tlW Z lo = A := ⟨_, rfl⟩
  obtain ⟨B, hB⟩ : ∃ B, tlE Z hi = B := ⟨_, rfl⟩
  rw [hA, hB] at b
  rw [hA] at HA1 HA2
  rw [hB] at HB
  rw [hA, hB]
  have hw : IntKind.i64.wrap (n : Int) = n := by rw [IntKind.wrap_i64]; omega
  have q1 : (lo + 16777216).tdiv (s : Int) = (lo + 16777216) / (s : Int) := Int.tdiv_eq_ediv_of_nonneg (by omega)
  have q3 : (lo + 16777216).tmod (s : Int) = (lo + 16777216) % (s : Int) := Int.tmod_eq_emod_of_nonneg (by omega)
  have q2 : (hi + 16777216).tdiv (s : Int) = B := by rw [Int.tdiv_eq_ediv_of_nonneg (by omega), HB.out]
  have b0 := b.1
  have b1 := b.2.1
  have b2 := b.2.2.2
  have b3 := b.2.2.1
  have hs0 : ¬ (s : Int) = 0 := by omega
  have hs1 : ¬ s = 0 := by omega
  have b4 : ¬ (n : Int) - 1 < B := by omega
  clear hA hB hs hz HB b hN
  by_cases hr : (lo + 16777216) % (s : Int) = 0
  · obtain ⟨e1, e2⟩ := HA1.out hr
    obtain ⟨a, ha⟩ : ∃ a, (lo + 16777216) / (s : Int) = a := ⟨_, rfl⟩
    rw [ha] at q1 e1 e2
    rw [hr] at q3
    have e3 : a = A + 1 := by omega
    subst e3
    clear ha e1 hr HA1 HA2
    go_enter Try.func45, Try.ntmps45
    go_wp2_with fail
    refine (cS _).mono ?_
    rintro e w1 ⟨rfl, rfl⟩
    clear cS
    go_wp2
    exact bodyPost_ret (v := .tuple #[.int .i64 A, .int .i64 B]) (by simp [results, Try.results45, go_sem]) rfl ⟨rfl, Bel.refl _⟩
  · have e1 := HA2.out hr
    obtain ⟨r, hr'⟩ : ∃ r, (lo + 16777216) % (s : Int) = r := ⟨_, rfl⟩
    rw [hr'] at q3 hr
    rw [← e1] at q1
    clear e1 HA1 HA2 hr'
    by_cases hA0 : 0 < A
    · go_enter Try.func45, Try.ntmps45
      go_wp2_with fail
      refine (cS _).mono ?_
      rintro e w1 ⟨rfl, rfl⟩
      clear cS
      go_wp2
      exact bodyPost_ret (v := .tuple #[.int .i64 A, .int .i64 B]) (by simp [results, Try.results45, go_sem]) rfl ⟨rfl, Bel.refl _⟩
    · go_enter Try.func45, Try.ntmps45
      go_wp2_with fail
      refine (cS _).mono ?_
      rintro e w1 ⟨rfl, rfl⟩
      clear cS
      go_wp2
      exact bodyPost_ret (v := .tuple #[.int .i64 A, .int .i64 B]) (by simp [results, Try.results45, go_sem]) rfl ⟨rfl, Bel.refl _⟩

theorem ordered_any (q : BoxD) (w : World) :
    Calls Try.prog 60 #[bxv q] w fun e w' => e = .returned (.bool (decide (q.a ≤ q.c) && decide (q.b ≤ q.d))) ∧ Bel w w' := by
  have hB : Bel w (w.alloc (.cells #[.int .i64 q.a, .int .i64 q.b, .int .i64 q.c, .int .i64 q.d] 35)) := bel_alloc (Bel.refl _) _
  obtain ⟨r, Hr⟩ : ∃ r, Hid ((decide (q.a ≤ q.c) && decide (q.b ≤ q.d)) = r) := ⟨_, (rfl : (decide (q.a ≤ q.c) && decide (q.b ≤ q.d)) = _)⟩
  rw [Hr.out]
  by_cases h1 : q.a ≤ q.c <;> by_cases h2 : q.b ≤ q.d <;> (
    go_enter Try.func60, Try.ntmps60
    go_wp2
    go_ret
    exact ⟨ret_bl (by rw [← Hr.out]; simp [h1, h2]), hB⟩)

set_option maxHeartbeats 1000000 in
theorem boxOk_any (q : BoxD) (w : World) :
    Calls Try.prog 41 #[bxv q] w fun e w' => e = .returned (.bool (bokB q)) ∧ Bel w w' := by
  have hB : Bel w (w.alloc (.cells #[.int .i64 q.a, .int .i64 q.b, .int .i64 q.c, .int .i64 q.d] 35)) := bel_alloc (Bel.refl _) _
  have X0 : Blk (w.alloc (.cells #[.int .i64 q.a, .int .i64 q.b, .int .i64 q.c, .int .i64 q.d] 35)) w.heap.size [.int .i64 q.a, .int .i64 q.b, .int .i64 q.c, .int .i64 q.d] := Blk.new w [.int .i64 q.a, .int .i64 q.b, .int .i64 q.c, .int .i64 q.d] _
  obtain ⟨r, Hr⟩ : ∃ r, Hid (bokB q = r) := ⟨_, (rfl : bokB q = _)⟩
  rw [Hr.out]
  go_enter Try.func41, Try.ntmps41
  go_wp2_with fail
  refine (pointOk_any _ _ _).mono ?_
  rintro e w1 ⟨rfl, hb1⟩
  have X1 := X0.bel hb1
  have c0 := X1.cell 0 (by simp)
  have c1 := X1.cell 1 (by simp)
  have c2 := X1.cell 2 (by simp)
  have c3 := X1.cell 3 (by simp)
  simp only [List.getElem_cons_zero, List.getElem_cons_succ] at c0 c1 c2 c3
  have hB1 := bel_step hB hb1
  clear X0 hb1
  cases hp : pok q.a q.b
  · have HE : Hid (false = r) := by rw [← Hr.out]; unfold bokB; rw [hp]; rfl
    go_wp2
    go_ret
    exact ⟨ret_bl HE.out, hB1⟩
  · go_wp2_with fail
    refine (pointOk_any _ _ _).mono ?_
    rintro e w2 ⟨rfl, hb2⟩
    have X2 := X1.bel hb2
    clear c0 c1 c2 c3
    have c0 := X2.cell 0 (by simp)
    have c1 := X2.cell 1 (by simp)
    have c2 := X2.cell 2 (by simp)
    have c3 := X2.cell 3 (by simp)
    simp only [List.getElem_cons_zero, List.getElem_cons_succ] at c0 c1 c2 c3
    have hB2 := bel_step hB1 hb2
    clear X1 X2 hb2
    cases hp2 : pok q.c q.d
    · have HE : Hid (false = r) := by rw [← Hr.out]; unfold bokB; rw [hp, hp2]; rfl
      go_wp2
      go_ret
      exact ⟨ret_bl HE.out, hB2⟩
    · have HE : Hid ((decide (q.a ≤ q.c) && decide (q.b ≤ q.d)) = r) := by rw [← Hr.out]; unfold bokB; rw [hp, hp2]; rfl
      clear hp hp2
      go_wp2_with fail
      refine (ordered_any q _).mono ?_
      rintro e w3 ⟨rfl, hb3⟩
      rw [HE.out]
      go_wp2
      go_ret
      exact ⟨rfl, bel_step hB2 hb3⟩

set_option maxHeartbeats 1000000 in
theorem l6BoxOk_any (q : BoxD) (w : World) :
    Calls Try.prog 44 #[bxv q] w fun e w' => e = .returned (.bool (bokB q)) ∧ Bel w w' := by
  have hB : Bel w (w.alloc (.cells #[.int .i64 q.a, .int .i64 q.b, .int .i64 q.c, .int .i64 q.d] 35)) := bel_alloc (Bel.refl _) _
  have X0 : Blk (w.alloc (.cells #[.int .i64 q.a, .int .i64 q.b, .int .i64 q.c, .int .i64 q.d] 35)) w.heap.size [.int .i64 q.a, .int .i64 q.b, .int .i64 q.c, .int .i64 q.d] := Blk.new w [.int .i64 q.a, .int .i64 q.b, .int .i64 q.c, .int .i64 q.d] _
  obtain ⟨r, Hr⟩ : ∃ r, Hid (bokB q = r) := ⟨_, (rfl : bokB q = _)⟩
  rw [Hr.out]
  go_enter Try.func44, Try.ntmps44
  go_wp2_with fail
  refine (specPointOk_any _ _ _).mono ?_
  rintro e w1 ⟨rfl, hb1⟩
  have X1 := X0.bel hb1
  have c0 := X1.cell 0 (by simp)
  have c1 := X1.cell 1 (by simp)
  have c2 := X1.cell 2 (by simp)
  have c3 := X1.cell 3 (by simp)
  simp only [List.getElem_cons_zero, List.getElem_cons_succ] at c0 c1 c2 c3
  have hB1 := bel_step hB hb1
  clear X0 hb1
  cases hp : pok q.a q.b
  · have HE : Hid (false = r) := by rw [← Hr.out]; unfold bokB; rw [hp]; rfl
    go_wp2
    go_ret
    exact ⟨ret_bl HE.out, hB1⟩
  · go_wp2_with fail
    refine (specPointOk_any _ _ _).mono ?_
    rintro e w2 ⟨rfl, hb2⟩
    have X2 := X1.bel hb2
    clear c0 c1 c2 c3
    have c0 := X2.cell 0 (by simp)
    have c1 := X2.cell 1 (by simp)
    have c2 := X2.cell 2 (by simp)
    have c3 := X2.cell 3 (by simp)
    simp only [List.getElem_cons_zero, List.getElem_cons_succ] at c0 c1 c2 c3
    have hB2 := bel_step hB1 hb2
    clear X1 X2 hb2
    cases hp2 : pok q.c q.d
    · have HE : Hid (false = r) := by rw [← Hr.out]; unfold bokB; rw [hp, hp2]; rfl
      go_wp2
      go_ret
      exact ⟨ret_bl HE.out, hB2⟩
    · have HE : Hid ((decide (q.a ≤ q.c) && decide (q.b ≤ q.d)) = r) := by rw [← Hr.out]; unfold bokB; rw [hp, hp2]; rfl
      clear hp hp2
      by_cases h1 : q.a ≤ q.c <;> by_cases h2 : q.b ≤ q.d <;> (
        go_wp2
        go_ret
        exact ⟨ret_bl (by rw [← HE.out]; simp [h1, h2]), hB2⟩)

set_option maxRecDepth 100000 in
set_option maxHeartbeats 4000000 in
theorem tilesOf_any (q : BoxD) (z : Int) (w : World) :
    Calls Try.prog 14 #[bxv q, .int .i64 z] w fun e w' => ∃ a c bs, e = .returned (.slice a (tlQ q z).length c) ∧ TileL w' a (tlQ q z) bs ∧ Fresh w w' bs ∧ Bel w w' := by
  obtain ⟨i0, hi0, hz0, hz1, hz2⟩ := info_parts infoTl
  obtain ⟨L, HL⟩ : ∃ L, Hid (tlQ q z = L) := ⟨_, (rfl : tlQ q z = _)⟩
  rw [HL.out]
  have hB : Bel w (w.alloc (.cells #[.int .i64 q.a, .int .i64 q.b, .int .i64 q.c, .int .i64 q.d] 35)) := bel_alloc (Bel.refl _) _
  have X0 : Blk (w.alloc (.cells #[.int .i64 q.a, .int .i64 q.b, .int .i64 q.c, .int .i64 q.d] 35)) w.heap.size [.int .i64 q.a, .int .i64 q.b, .int .i64 q.c, .int .i64 q.d] := Blk.new w [.int .i64 q.a, .int .i64 q.b, .int .i64 q.c, .int .i64 q.d] _
  go_enter Try.func14, Try.ntmps14
  go_wp2_with fail
  refine (boxOk_any q _).mono ?_
  rintro e w1 ⟨rfl, hb1⟩
  have X1 := X0.bel hb1
  have hB1 := bel_step hB hb1
  clear X0 hb1 hB
  cases hq : bokB q
  · obtain rfl := HL.out.symm.trans (tlQ_bok hq)
    go_wp2
    go_ret
    exact ⟨_, _, [], rfl, Sl.nil, Fresh.nil _ _, hB1⟩
  · have hbo := bok_out hq
    go_wp2_with fail
    refine (zoomOk_any _ _).mono ?_
    rintro e w0 ⟨rfl, rfl⟩
    cases hz : zmB z
    · obtain rfl := HL.out.symm.trans (tlQ_zm hz)
      go_wp2
      go_ret
      exact ⟨_, _, [], rfl, Sl.nil, Fresh.nil _ _, hB1⟩
    · have c0 := X1.cell 0 (by simp)
      have c1 := X1.cell 1 (by simp)
      have c2 := X1.cell 2 (by simp)
      have c3 := X1.cell 3 (by simp)
      simp only [List.getElem_cons_zero, List.getElem_cons_succ] at c0 c1 c2 c3
      obtain ⟨o1, o2, o3, o4, o5, o6⟩ := hbo
      have nX := tlN_int hz o1 o2 o3
      have nY := tlN_int hz o4 o5 o6
      have rX := tl_bd hz o1 o2 o3
      have rY := tl_bd hz o4 o5 o6
      have cX := fun w' => tilesAlong_any z q.a q.c w' hz o1 o2 o3
      have cY := fun w' => tilesAlong_any z q.b q.d w' hz o4 o5 o6
      have HQ1 : Hid (400 < tlN z q.a q.c * tlN z q.b q.d → tlQ q z = []) := tlQ_many
      have HQ2 : Hid (tlN z q.a q.c * tlN z q.b q.d ≤ 400 → tlQ q z = tlT z (tlW z q.a) (tlW z q.b) (tlN z q.a q.c) (tlN z q.b q.d * tlN z q.a q.c)) := tlQ_yes hq hz
      have hz64 : In64 z := by
        obtain ⟨Z, rfl, hZ⟩ := zm_out hz
        exact ⟨by omega, by omega⟩
      rw [HL.out] at HQ1 HQ2
      generalize tlW z q.a = xa at *
      generalize tlE z q.c = xb at *
      generalize tlW z q.b = ya at *
      generalize tlE z q.d = yb at *
      generalize tlN z q.a q.c = NX at *
      generalize tlN z q.b q.d = NY at *
      obtain ⟨nx1, nx2, nx3⟩ := nX
      obtain ⟨ny1, ny2, ny3⟩ := nY
      obtain ⟨rx1, rx2, _, rx3⟩ := rX
      obtain ⟨ry1, ry2, _, ry3⟩ := rY
      have hmul : (xb - xa + 1) * (yb - ya + 1) = ((NX * NY : Nat) : Int) := by rw [Int.natCast_mul, nx1, ny1]
      have hmn : NX * NY ≤ 1024 * 1024 := Nat.mul_le_mul nx3 ny3
      obtain ⟨M, hM⟩ : ∃ M, NX * NY = M := ⟨_, rfl⟩
      have HM : Hid (NX * NY = M) := hM
      rw [hM] at hmul hmn HQ1 HQ2
      clear hM HL o1 o2 o3 o4 o5 o6 hq hz
      go_wp2_with fail
      refine (cX _).mono ?_
      rintro e w2 ⟨rfl, hb2⟩
      have X2 := X1.bel hb2
      clear c0 c1 c2 c3
      have c0 := X2.cell 0 (by simp)
      have c1 := X2.cell 1 (by simp)
      have c2 := X2.cell 2 (by simp)
      have c3 := X2.cell 3 (by simp)
      simp only [List.getElem_cons_zero, List.getElem_cons_succ] at c0 c1 c2 c3
      have hB2 := bel_step hB1 hb2
      go_wp2_with fail
      refine (cY _).mono ?_
      rintro e w3 ⟨rfl, hb3⟩
      have hB3 := bel_step hB2 hb3
      clear X1 X2 hb2 hb3 c0 c1 c2 c3 cX cY hB1 hB2
      by_cases hbig : 400 < M
      · obtain rfl : L = [] := HQ1.out hbig
        have hbig' : (400 : Int) < (M : Int) := by omega
        clear HQ1 HQ2
        go_wp2
        go_ret
        exact ⟨_, _, [], rfl, Sl.nil, Fresh.nil _ _, hB3⟩
      · have HE : Hid (L = tlT z xa ya NX (NY * NX)) := HQ2.out (by omega)
        have hbig' : (M : Int) ≤ 400 := by omega
        clear HQ1 HQ2
        go_wp2
        go_loopw [9, 10, 11] (fun o y _ wr => ∃ (j : Nat) (R : Nat → List Value), j ≤ NY ∧ y = .int .i64 (ya + j) ∧ Gr 3 (flatV TileP tileCs) 42 w.heap.size wr o (tlT z xa ya NX (j * NX)) R (fun _ => []) ∧ Bel w wr) (fun _ y _ _ => (yb + 1 - intOf y).toNat)
        case atStart => exact ⟨0, _, Nat.zero_le _, by simp, by rw [Nat.zero_mul, tlT_zero]; exact Gr.nil 3 (flatV TileP tileCs) 42 _ _, hB3⟩
        case round =>
          obtain ⟨j, R, hj, rfl, hG, hBr⟩ := hrel
          obtain ⟨va, vc, rfl⟩ := own_shape hG.own
          obtain ⟨wo, hwo⟩ : ∃ V, V = wr := ⟨_, rfl⟩
          subst hwo
          by_cases hlt : j < NY
          · have hle : ya + (j : Int) ≤ yb := by omega
            go_wp2
            go_loopw [9, 11] (fun o x wr => ∃ (i : Nat) (R : Nat → List Value), i ≤ NX ∧ x = .int .i64 (xa + i) ∧ Gr 3 (flatV TileP tileCs) 42 w.heap.size wr o (tlT z xa ya NX (j * NX + i)) R (fun _ => []) ∧ Bel w wr) (fun _ x _ => (xb + 1 - intOf x).toNat)
            case atStart => exact ⟨0, R, Nat.zero_le _, by simp, hG, hBr⟩
            case round =>
              clear hG hBr
              obtain ⟨i, R, hi, rfl, hG, hBr⟩ := hrel
              obtain ⟨va, vc, rfl⟩ := own_shape hG.own
              have HLK : Hid ((tlT z xa ya NX (j * NX + i)).length = j * NX + i) := tlT_len _ _ _ _ _
              by_cases hil : i < NX
              · have hile : xa + (i : Int) ≤ xb := by omega
                have HB : Hid (j * NX + i < 400) := by
                  have h1 : (j + 1) * NX ≤ NY * NX := Nat.mul_le_mul_right _ hlt
                  have h2 := HM.out
                  rw [Nat.mul_comm] at h2
                  rw [Nat.add_mul, Nat.one_mul, h2] at h1
                  show _ < _
                  omega
                have HS : Hid (tlT z xa ya NX (j * NX + i + 1) = tlT z xa ya NX (j * NX + i) ++ [⟨z, xa + (i : Int), ya + (j : Int)⟩]) := tlT_step hil
                have HG : Hid (Gr 3 (flatV TileP tileCs) 42 w.heap.size wr (.slice va (tlT z xa ya NX (j * NX + i)).length vc) (tlT z xa ya NX (j * NX + i)) R (fun _ => [])) := hG
                have hown2 := World.ownsRow.alloc hG.own (.cells #[.int .i64 z, .int .i64 (xa + i), .int .i64 (ya + j)] 42)
                have hBa := bel_alloc hBr (.cells #[.int .i64 z, .int .i64 (xa + i), .int .i64 (ya + j)] 42)
                clear hG
                go_wp2_with (first
                  | (at_builtin; refine wpList_append_lies _ rfl _ _ 38 rfl w.heap.size 42 i0 (.agg #[.int .i64 0, .int .i64 0, .int .i64 0]) 3 24 Try.underlying38 hi0 hz0 hz1 hz2 rfl (by decide) _ _ _ rfl hown2 ⟨wr.heap.size, 0, none⟩ 1 1 [.int .i64 z, .int .i64 (xa + i), .int .i64 (ya + j)] rfl rfl ?c1 ?c2 (by decide) ?c3 ?c4 ?c5 (wr.heap.size + 1) ?c6 ?_)
                  | go_in)
                case c1 =>
                  intro t u ht
                  match t, ht with
                  | 0, ht => simp at ht; subst ht; simp [Addr.add]
                  | 1, ht => simp at ht; subst ht; simp [Addr.add]
                  | 2, ht => simp at ht; subst ht; simp [Addr.add]
                case c2 =>
                  intro u hu
                  simp at hu
                  rcases hu with rfl | rfl | rfl <;> rfl
                case c3 => have := HLK.out; have := HB.out; unfold maxLen; omega
                case c4 => have := HLK.out; have := HB.out; omega
                case c5 => have := hBr.out.size; simp; omega
                case c6 => simp
                intro g cap w4 hown' hgrow hat _
                have HG3 : Hid (∃ R', Gr 3 (flatV TileP tileCs) 42 w.heap.size w4 (.slice (some ⟨g, 0, none⟩) ((tlT z xa ya NX (j * NX + i)).length + 1) cap) (tlT z xa ya NX (j * NX + i + 1)) R' (fun _ => [])) := by
                  have hat' : (Value.slice va (tlT z xa ya NX (j * NX + i)).length vc).ownBlock = some g ∨ g = (wr.alloc (.cells #[.int .i64 z, .int .i64 (xa + i), .int .i64 (ya + j)] 42)).heap.size := by simpa using hat
                  have := Gr.add1 tileF (d := ⟨z, xa + (i : Int), ya + (j : Int)⟩) HG.out (bel_alloc (Bel.refl wr) (.cells #[.int .i64 z, .int .i64 (xa + i), .int .i64 (ya + j)] 42)) ⟨hz64, ⟨by show _ ≤ xa + (i : Int); omega, by show xa + (i : Int) ≤ _; omega⟩, ⟨by show _ ≤ ya + (j : Int); omega, by show ya + (j : Int) ≤ _; omega⟩⟩ hBr.out.size hown' hgrow (hatT hat')
                  rw [HS.out]
                  exact this
                have hB4 : Bel w w4 := bel_grow hBa hgrow (fun t e => (hown2.lt t e).1)
                clear hown' hgrow hown2 hBa HG hat HB HS
                go_wp2
                go_roundw
                case rel =>
                  obtain ⟨R', G'⟩ := HG3.out
                  exact ⟨i + 1, R', by omega, by go_num, G', hB4⟩
                case measure => simp [intOf]; omega
              · have e : NX = i := by omega
                have HG : Hid (Gr 3 (flatV TileP tileCs) 42 w.heap.size wr (.slice va (tlT z xa ya NX (j * NX + i)).length vc) (tlT z xa ya NX (j * NX + i)) R (fun _ => [])) := hG
                have HJ : Hid ((j + 1) * NX = j * NX + i) := (by rw [Nat.add_mul, Nat.one_mul, ← e] : (j + 1) * NX = j * NX + i)
                have hng : ¬ xa + (i : Int) ≤ xb := by omega
                clear hG
                go_wp2
                go_roundw
                case rel => exact ⟨j + 1, R, by omega, by go_num, by rw [HJ.out]; exact HG.out, hBr⟩
                case measure => simp [intOf]; omega
          · have e : NY = j := by omega
            have HO := Gr.out tileF.stays hG
            have HG : Hid _ := hG
            obtain ⟨a', c', bs', e', hS, hMi⟩ := HO
            obtain ⟨rfl, rfl⟩ : va = a' ∧ vc = c' := by simpa using e'
            have hLe := HE.out
            rw [e] at hLe
            subst hLe
            have HS : Hid (TileL wo va (tlT z xa ya NX (j * NX)) bs') := hS
            have hng : ¬ ya + (j : Int) ≤ yb := by omega
            clear hS e' HG hG HE e
            go_wp2
            go_ret
            exact ⟨va, ⟨vc, rfl⟩, bs', HS.out, hMi.fresh (Nat.le_refl _), hBr⟩

set_option maxRecDepth 100000 in
set_option maxHeartbeats 4000000 in
theorem specTilesOf_any (q : BoxD) (z : Int) (w : World) :
    Calls Try.prog 15 #[bxv q, .int .i64 z] w fun e w' => ∃ a c bs, e = .returned (.slice a (tlQ q z).length c) ∧ TileL w' a (tlQ q z) bs ∧ Fresh w w' bs ∧ Bel w w' := by
  obtain ⟨i0, hi0, hz0, hz1, hz2⟩ := info_parts infoTl
  obtain ⟨L, HL⟩ : ∃ L, Hid (tlQ q z = L) := ⟨_, (rfl : tlQ q z = _)⟩
  rw [HL.out]
  obtain ⟨W, HW⟩ : ∃ W, Hid (W = (w.alloc (.cells #[.int .i64 q.a, .int .i64 q.b, .int .i64 q.c, .int .i64 q.d] 35)).alloc (.cells #[] 42)) := ⟨_, (rfl : (w.alloc (.cells #[.int .i64 q.a, .int .i64 q.b, .int .i64 q.c, .int .i64 q.d] 35)).alloc (.cells #[] 42) = _)⟩
  have hB : Bel w W := by rw [HW.out]; exact bel_alloc (bel_alloc (Bel.refl _) _) _
  have X0 : Blk W w.heap.size [.int .i64 q.a, .int .i64 q.b, .int .i64 q.c, .int .i64 q.d] := by rw [HW.out]; exact (Blk.new w [.int .i64 q.a, .int .i64 q.b, .int .i64 q.c, .int .i64 q.d] _).bel (bel_alloc (Bel.refl _) _)
  have O0 : W.ownsRow w.heap.size 42 3 (.slice (some ⟨w.heap.size + 1, 0, none⟩) 0 0) 0 [] := by
    have h := World.ownsRow_lit (base := w.heap.size) (e := 42) (size := 3) (w.alloc (.cells #[.int .i64 q.a, .int .i64 q.b, .int .i64 q.c, .int .i64 q.d] 35)) #[] 0 (by simp) (Nat.zero_le _) rfl
    rw [World.size_alloc] at h
    rw [HW.out]
    exact h
  go_enter Try.func15, Try.ntmps15
  go_wp2_with fail
  rw [← HW.out]
  refine (l6BoxOk_any q _).mono ?_
  rintro e w1 ⟨rfl, hb1⟩
  have X1 := X0.bel hb1
  have hB1 := bel_step hB hb1
  have O1 := own_bel O0 hb1
  clear X0 hb1 hB
  cases hq : bokB q
  · obtain rfl := HL.out.symm.trans (tlQ_bok hq)
    go_wp2
    go_ret
    exact ⟨_, _, [], rfl, Sl.nil, Fresh.nil _ _, hB1⟩
  · have hbo := bok_out hq
    cases hz : zmB z
    · obtain rfl := HL.out.symm.trans (tlQ_zm hz)
      have hz' : ¬ (0 ≤ z ∧ z ≤ 10) := fun h => by simp [zmB, h.1, h.2] at hz
      by_cases h1 : z < 0
      · go_wp2
        go_ret
        exact ⟨_, _, [], rfl, Sl.nil, Fresh.nil _ _, hB1⟩
      · have h2 : 10 < z := by omega
        go_wp2
        go_ret
        exact ⟨_, _, [], rfl, Sl.nil, Fresh.nil _ _, hB1⟩
    · obtain ⟨Z, hZe, hZ⟩ := zm_out hz
      have hZ0 : (0 : Int) ≤ z := by omega
      have hZ1 : z ≤ 10 := by omega
      clear hZe hZ
      have c0 := X1.cell 0 (by simp)
      have c1 := X1.cell 1 (by simp)
      have c2 := X1.cell 2 (by simp)
      have c3 := X1.cell 3 (by simp)
      simp only [List.getElem_cons_zero, List.getElem_cons_succ] at c0 c1 c2 c3
      obtain ⟨o1, o2, o3, o4, o5, o6⟩ := hbo
      have nX := tlN_int hz o1 o2 o3
      have nY := tlN_int hz o4 o5 o6
      have rX := tl_bd hz o1 o2 o3
      have rY := tl_bd hz o4 o5 o6
      have cX := fun w' => l6Range_any z q.a q.c w' hz o1 o2 o3
      have cY := fun w' => l6Range_any z q.b q.d w' hz o4 o5 o6
      have HQ1 : Hid (400 < tlN z q.a q.c * tlN z q.b q.d → tlQ q z = []) := tlQ_many
      have HQ2 : Hid (tlN z q.a q.c * tlN z q.b q.d ≤ 400 → tlQ q z = tlT z (tlW z q.a) (tlW z q.b) (tlN z q.a q.c) (tlN z q.b q.d * tlN z q.a q.c)) := tlQ_yes hq hz
      have hz64 : In64 z := by
        obtain ⟨Z, rfl, hZ⟩ := zm_out hz
        exact ⟨by omega, by omega⟩
      rw [HL.out] at HQ1 HQ2
      generalize tlW z q.a = xa at *
      generalize tlE z q.c = xb at *
      generalize tlW z q.b = ya at *
      generalize tlE z q.d = yb at *
      generalize tlN z q.a q.c = NX at *
      generalize tlN z q.b q.d = NY at *
      obtain ⟨nx1, nx2, nx3⟩ := nX
      obtain ⟨ny1, ny2, ny3⟩ := nY
      obtain ⟨rx1, rx2, _, rx3⟩ := rX
      obtain ⟨ry1, ry2, _, ry3⟩ := rY
      have hmul : (xb - xa + 1) * (yb - ya + 1) = ((NX * NY : Nat) : Int) := by rw [Int.natCast_mul, nx1, ny1]
      have hmn : NX * NY ≤ 1024 * 1024 := Nat.mul_le_mul nx3 ny3
      obtain ⟨M, hM⟩ : ∃ M, NX * NY = M := ⟨_, rfl⟩
      have HM : Hid (NX * NY = M) := hM
      rw [hM] at hmul hmn HQ1 HQ2
      clear hM HL o1 o2 o3 o4 o5 o6 hq hz
      go_wp2_with fail
      refine (cX _).mono ?_
      rintro e w2 ⟨rfl, hb2⟩
      have X2 := X1.bel hb2
      clear c0 c1 c2 c3
      have c0 := X2.cell 0 (by simp)
      have c1 := X2.cell 1 (by simp)
      have c2 := X2.cell 2 (by simp)
      have c3 := X2.cell 3 (by simp)
      simp only [List.getElem_cons_zero, List.getElem_cons_succ] at c0 c1 c2 c3
      have hB2 := bel_step hB1 hb2
      go_wp2_with fail
      refine (cY _).mono ?_
      rintro e w3 ⟨rfl, hb3⟩
      have hB3 := bel_step hB2 hb3
      have O3 := own_bel (own_bel O1 hb2) hb3
      have G0 : Gr 3 (flatV TileP tileCs) 42 w.heap.size w3 (.slice (some ⟨w.heap.size + 1, 0, none⟩) 0 0) [] (fun _ => List.replicate 3 (.bool false)) (fun _ => []) := ⟨O3, fun _ => by simp, fun i h => absurd h (Nat.not_lt_zero _), fun i h => absurd h (Nat.not_lt_zero _), by simp⟩
      clear X1 X2 hb2 hb3 c0 c1 c2 c3 cX cY hB1 hB2
      by_cases hbig : 400 < M
      · obtain rfl : L = [] := HQ1.out hbig
        have hbig' : (400 : Int) < (M : Int) := by omega
        clear HQ1 HQ2
        go_wp2
        go_ret
        exact ⟨_, _, [], rfl, Sl.nil, Fresh.nil _ _, hB3⟩
      · have HE : Hid (L = tlT z xa ya NX (NY * NX)) := HQ2.out (by omega)
        have hbig' : (M : Int) ≤ 400 := by omega
        clear HQ1 HQ2
        go_wp2
        go_loopw [5, 10, 11] (fun o y _ wr => ∃ (j : Nat) (R : Nat → List Value), j ≤ NY ∧ y = .int .i64 (ya + j) ∧ Gr 3 (flatV TileP tileCs) 42 w.heap.size wr o (tlT z xa ya NX (j * NX)) R (fun _ => []) ∧ Bel w wr) (fun _ y _ _ => (yb + 1 - intOf y).toNat)
        case atStart => exact ⟨0, _, Nat.zero_le _, by simp, by rw [Nat.zero_mul, tlT_zero]; exact G0, hB3⟩
        case round =>
          obtain ⟨j, R, hj, rfl, hG, hBr⟩ := hrel
          obtain ⟨va, vc, rfl⟩ := own_shape hG.own
          obtain ⟨wo, hwo⟩ : ∃ V, V = wr := ⟨_, rfl⟩
          subst hwo
          by_cases hlt : j < NY
          · have hle : ya + (j : Int) ≤ yb := by omega
            go_wp2
            go_loopw [5, 11] (fun o x wr => ∃ (i : Nat) (R : Nat → List Value), i ≤ NX ∧ x = .int .i64 (xa + i) ∧ Gr 3 (flatV TileP tileCs) 42 w.heap.size wr o (tlT z xa ya NX (j * NX + i)) R (fun _ => []) ∧ Bel w wr) (fun _ x _ => (xb + 1 - intOf x).toNat)
            case atStart => exact ⟨0, R, Nat.zero_le _, by simp, hG, hBr⟩
            case round =>
              clear hG hBr
              obtain ⟨i, R, hi, rfl, hG, hBr⟩ := hrel
              obtain ⟨va, vc, rfl⟩ := own_shape hG.own
              have HLK : Hid ((tlT z xa ya NX (j * NX + i)).length = j * NX + i) := tlT_len _ _ _ _ _
              by_cases hil : i < NX
              · have hile : xa + (i : Int) ≤ xb := by omega
                have HB : Hid (j * NX + i < 400) := by
                  have h1 : (j + 1) * NX ≤ NY * NX := Nat.mul_le_mul_right _ hlt
                  have h2 := HM.out
                  rw [Nat.mul_comm] at h2
                  rw [Nat.add_mul, Nat.one_mul, h2] at h1
                  show _ < _
                  omega
                have HS : Hid (tlT z xa ya NX (j * NX + i + 1) = tlT z xa ya NX (j * NX + i) ++ [⟨z, xa + (i : Int), ya + (j : Int)⟩]) := tlT_step hil
                have HG : Hid (Gr 3 (flatV TileP tileCs) 42 w.heap.size wr (.slice va (tlT z xa ya NX (j * NX + i)).length vc) (tlT z xa ya NX (j * NX + i)) R (fun _ => [])) := hG
                have hown2 := World.ownsRow.alloc hG.own (.cells #[.int .i64 z, .int .i64 (xa + i), .int .i64 (ya + j)] 42)
                have hBa := bel_alloc hBr (.cells #[.int .i64 z, .int .i64 (xa + i), .int .i64 (ya + j)] 42)
                clear hG
                go_wp2_with (first
                  | (at_builtin; refine wpList_append_lies _ rfl _ _ 38 rfl w.heap.size 42 i0 (.agg #[.int .i64 0, .int .i64 0, .int .i64 0]) 3 24 Try.underlying38 hi0 hz0 hz1 hz2 rfl (by decide) _ _ _ rfl hown2 ⟨wr.heap.size, 0, none⟩ 1 1 [.int .i64 z, .int .i64 (xa + i), .int .i64 (ya + j)] rfl rfl ?c1 ?c2 (by decide) ?c3 ?c4 ?c5 (wr.heap.size + 1) ?c6 ?_)
                  | go_in)
                case c1 =>
                  intro t u ht
                  match t, ht with
                  | 0, ht => simp at ht; subst ht; simp [Addr.add]
                  | 1, ht => simp at ht; subst ht; simp [Addr.add]
                  | 2, ht => simp at ht; subst ht; simp [Addr.add]
                case c2 =>
                  intro u hu
                  simp at hu
                  rcases hu with rfl | rfl | rfl <;> rfl
                case c3 => have := HLK.out; have := HB.out; unfold maxLen; omega
                case c4 => have := HLK.out; have := HB.out; omega
                case c5 => have := hBr.out.size; simp; omega
                case c6 => simp
                intro g cap w4 hown' hgrow hat _
                have HG3 : Hid (∃ R', Gr 3 (flatV TileP tileCs) 42 w.heap.size w4 (.slice (some ⟨g, 0, none⟩) ((tlT z xa ya NX (j * NX + i)).length + 1) cap) (tlT z xa ya NX (j * NX + i + 1)) R' (fun _ => [])) := by
                  have hat' : (Value.slice va (tlT z xa ya NX (j * NX + i)).length vc).ownBlock = some g ∨ g = (wr.alloc (.cells #[.int .i64 z, .int .i64 (xa + i), .int .i64 (ya + j)] 42)).heap.size := by simpa using hat
                  have := Gr.add1 tileF (d := ⟨z, xa + (i : Int), ya + (j : Int)⟩) HG.out (bel_alloc (Bel.refl wr) (.cells #[.int .i64 z, .int .i64 (xa + i), .int .i64 (ya + j)] 42)) ⟨hz64, ⟨by show _ ≤ xa + (i : Int); omega, by show xa + (i : Int) ≤ _; omega⟩, ⟨by show _ ≤ ya + (j : Int); omega, by show ya + (j : Int) ≤ _; omega⟩⟩ hBr.out.size hown' hgrow (hatT hat')
                  rw [HS.out]
                  exact this
                have hB4 : Bel w w4 := bel_grow hBa hgrow (fun t e => (hown2.lt t e).1)
                clear hown' hgrow hown2 hBa HG hat HB HS
                go_wp2
                go_roundw
                case rel =>
                  obtain ⟨R', G'⟩ := HG3.out
                  exact ⟨i + 1, R', by omega, by go_num, G', hB4⟩
                case measure => simp [intOf]; omega
              · have e : NX = i := by omega
                have HG : Hid (Gr 3 (flatV TileP tileCs) 42 w.heap.size wr (.slice va (tlT z xa ya NX (j * NX + i)).length vc) (tlT z xa ya NX (j * NX + i)) R (fun _ => [])) := hG
                have HJ : Hid ((j + 1) * NX = j * NX + i) := (by rw [Nat.add_mul, Nat.one_mul, ← e] : (j + 1) * NX = j * NX + i)
                have hng : ¬ xa + (i : Int) ≤ xb := by omega
                clear hG
                go_wp2
                go_roundw
                case rel => exact ⟨j + 1, R, by omega, by go_num, by rw [HJ.out]; exact HG.out, hBr⟩
                case measure => simp [intOf]; omega
          · have e : NY = j := by omega
            have HO := Gr.out tileF.stays hG
            have HG : Hid _ := hG
            obtain ⟨a', c', bs', e', hS, hMi⟩ := HO
            obtain ⟨rfl, rfl⟩ : va = a' ∧ vc = c' := by simpa using e'
            have hLe := HE.out
            rw [e] at hLe
            subst hLe
            have HS : Hid (TileL wo va (tlT z xa ya NX (j * NX)) bs') := hS
            have hng : ¬ ya + (j : Int) ≤ yb := by omega
            clear hS e' HG hG HE e
            go_wp2
            go_ret
            exact ⟨va, ⟨vc, rfl⟩, bs', HS.out, hMi.fresh (Nat.le_refl _), hBr⟩
end Go.Proofs.Ytkknbapcbcialaa
