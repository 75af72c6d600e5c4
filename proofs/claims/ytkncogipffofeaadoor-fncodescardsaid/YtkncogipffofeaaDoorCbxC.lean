/-
  Contracts of CellBox, in the program and in its model: for every cell.
-/
import Derived.Test.YtkncogipffofeaaDoorCelC
namespace Go.Proofs.YtkncogipffofeaaDoor
open Go.RowKit

/-- The first code of a cell that can be. -/
theorem fst_lt {k L m : Nat} (hL : L + m = 25) (hk : k < 2 ^ (2 * L)) : k * 2 ^ (2 * m) + 2 ^ (2 * m) ≤ 1125899906842624 := by
  have h1 : (k + 1) * 2 ^ (2 * m) ≤ 2 ^ (2 * L) * 2 ^ (2 * m) := Nat.mul_le_mul_right _ hk
  rw [← Nat.pow_add, show 2 * L + 2 * m = 50 by omega, Nat.add_mul, Nat.one_mul] at h1
  exact h1
theorem fst_wrap {k L m : Nat} (hL : L + m = 25) (hk : k < 2 ^ (2 * L)) : IntKind.u64.wrap ((k : Int) * 2 ^ (2 * m)) = ((k * 2 ^ (2 * m) : Nat) : Int) := by
  have h := fst_lt hL hk
  have h0 : 0 < 2 ^ (2 * m) := Nat.pow_pos (by decide)
  rw [pow_i, ← Int.natCast_mul, IntKind.wrap_u64]
  omega
/-- The far corner, as the program and as its model reckon it. -/
theorem far_x {k m : Nat} (hm : m ≤ 25) : plX (k * 2 ^ (2 * m) + (2 ^ (2 * m) - 1)) = plX (k * 2 ^ (2 * m)) + 2 ^ m - 1 := by
  have h := gth_full m 25 k hm
  have h0 : 0 < 2 ^ m := Nat.pow_pos (by decide)
  rw [four_two, Nat.mul_comm] at h
  unfold plX
  rw [h, pow_i]
  omega
theorem far_y {k m : Nat} (hm : m ≤ 25) : plY (k * 2 ^ (2 * m) + (2 ^ (2 * m) - 1)) = plY (k * 2 ^ (2 * m)) + 2 ^ m - 1 := by
  have h := gth_half m 25 k hm
  have h0 : 0 < 2 ^ m := Nat.pow_pos (by decide)
  rw [four_two, Nat.mul_comm] at h
  unfold plY
  rw [h, pow_i]
  omega
theorem pl_bd (c : Nat) : (-16777216 ≤ plX c ∧ plX c < 16777216) ∧ -16777216 ≤ plY c ∧ plY c < 16777216 := by
  have h1 := gth_lt 25 c
  have h2 := gth_lt 25 (c / 2)
  unfold plX plY
  omega

set_option maxRecDepth 100000 in
set_option maxHeartbeats 1000000 in
theorem first_any (k L m : Nat) (w : World) (hL : L + m = 25) (hk : k < 2 ^ (2 * L)) :
    Calls Tryd.prog 24 #[cel k (L : Int)] w fun e w' => e = .returned (.int .u64 ((k * 2 ^ (2 * m) : Nat) : Int)) ∧ Bel w w' := by
  have hB : Bel w (w.alloc (.cells #[.int .u64 (k : Int), .int .i64 (L : Int)] 34)) := bel_alloc (Bel.refl _) _
  have hw := fst_wrap hL hk
  have h25 : (25 : Int) - (L : Int) = (m : Int) := by omega
  obtain ⟨f, hf⟩ : ∃ f, k * 2 ^ (2 * m) = f := ⟨_, rfl⟩
  rw [hf] at hw ⊢
  have hm : m ≤ 25 := by omega
  clear hL hk hf
  go_enter Tryd.func24, Tryd.ntmps24
  go_wp2
  go_ret
  exact ⟨by rw [← hw]; rfl, hB⟩

/-- The box of a cell. -/
def cbA (k : Nat) (l : Int) : Int := if celB k l = true then plX (k * 2 ^ (2 * (25 - l).toNat)) else 0
def cbB (k : Nat) (l : Int) : Int := if celB k l = true then plY (k * 2 ^ (2 * (25 - l).toNat)) else 0
def cbC (k : Nat) (l : Int) : Int := if celB k l = true then plX (k * 2 ^ (2 * (25 - l).toNat)) + 2 ^ (25 - l).toNat - 1 else 0
def cbD (k : Nat) (l : Int) : Int := if celB k l = true then plY (k * 2 ^ (2 * (25 - l).toNat)) + 2 ^ (25 - l).toNat - 1 else 0
theorem cb_no {k : Nat} {l : Int} (h : celB k l = false) : cbA k l = 0 ∧ cbB k l = 0 ∧ cbC k l = 0 ∧ cbD k l = 0 := by
  have h' : ¬ celB k l = true := by rw [h]; exact Bool.false_ne_true
  exact ⟨if_neg h', if_neg h', if_neg h', if_neg h'⟩
theorem cb_yes {k L m : Nat} (hL : L + m = 25) (h : celB k (L : Int) = true) : cbA k L = plX (k * 2 ^ (2 * m)) ∧ cbB k L = plY (k * 2 ^ (2 * m)) ∧ cbC k L = plX (k * 2 ^ (2 * m)) + 2 ^ m - 1 ∧ cbD k L = plY (k * 2 ^ (2 * m)) + 2 ^ m - 1 := by
  have e : (25 - (L : Int)).toNat = m := by omega
  unfold cbA cbB cbC cbD
  rw [e]
  exact ⟨if_pos h, if_pos h, if_pos h, if_pos h⟩
theorem celB_out {k : Nat} {l : Int} (h : celB k l = true) : ∃ L m : Nat, l = L ∧ L + m = 25 ∧ k < 2 ^ (2 * L) := by
  unfold celB at h
  simp only [Bool.and_eq_true, decide_eq_true_eq] at h
  obtain ⟨h1, h2, h3⟩ := h
  exact ⟨l.toNat, 25 - l.toNat, by omega, by omega, h3⟩

set_option maxRecDepth 100000 in
set_option maxHeartbeats 1000000 in
theorem cellBox_any (k : Nat) (l : Int) (w : World) (hT : GtTab w) :
    Calls Tryd.prog 12 #[cel k l] w fun e w' => e = .returned (.agg #[.int .i64 (cbA k l), .int .i64 (cbB k l), .int .i64 (cbC k l), .int .i64 (cbD k l)]) ∧ Bel w w' := by
  obtain ⟨W, HW⟩ : ∃ W, Hid (W = (w.alloc (.cells #[.int .u64 (k : Int), .int .i64 l] 34)).alloc (.cells #[.int .i64 0, .int .i64 0, .int .i64 0, .int .i64 0] 38)) := ⟨_, (rfl : (w.alloc (.cells #[.int .u64 (k : Int), .int .i64 l] 34)).alloc (.cells #[.int .i64 0, .int .i64 0, .int .i64 0, .int .i64 0] 38) = _)⟩
  have hBW : Bel w W := by rw [HW.out]; exact bel_alloc (bel_alloc (Bel.refl _) _) _
  have X0 : Blk W w.heap.size [.int .u64 (k : Int), .int .i64 l] := by rw [HW.out]; exact (Blk.new w [.int .u64 (k : Int), .int .i64 l] _).bel (bel_alloc (Bel.refl _) _)
  have X1 : Blk W (w.heap.size + 1) [.int .i64 0, .int .i64 0, .int .i64 0, .int .i64 0] := by rw [HW.out]; exact Blk.new1 w _ [.int .i64 0, .int .i64 0, .int .i64 0, .int .i64 0] _
  go_enter Tryd.func12, Tryd.ntmps12
  go_wp2_with fail
  rw [← HW.out]
  refine (canBe_any _ _ _).mono ?_
  rintro e w1 ⟨rfl, hb1⟩
  have Y0 := X0.bel hb1
  have Y1 := X1.bel hb1
  have hB1 := bel_step hBW hb1
  have c0 := Y0.cell 0 (by simp)
  have c1 := Y0.cell 1 (by simp)
  simp only [List.getElem_cons_zero, List.getElem_cons_succ] at c0 c1
  clear X0 X1 hb1 HW
  cases hok : celB k l
  · have HB : Hid (celB k l = false) := hok
    have f0 := Y1.free 0
    have f1 := Y1.free 1
    have f2 := Y1.free 2
    have f3 := Y1.free 3
    have d0 := Y1.cell 0 (by simp)
    have d1 := Y1.cell 1 (by simp)
    have d2 := Y1.cell 2 (by simp)
    have d3 := Y1.cell 3 (by simp)
    simp only [List.getElem_cons_zero, List.getElem_cons_succ] at d0 d1 d2 d3
    obtain ⟨V, HV⟩ : ∃ V, Hid (V = (((w1.setCell ⟨w.heap.size + 1, 0, none⟩ (.int .i64 0)).setCell ⟨w.heap.size + 1, 1, none⟩ (.int .i64 0)).setCell ⟨w.heap.size + 1, 2, none⟩ (.int .i64 0)).setCell ⟨w.heap.size + 1, 3, none⟩ (.int .i64 0)) := ⟨_, (rfl : (((w1.setCell ⟨w.heap.size + 1, 0, none⟩ (.int .i64 0)).setCell ⟨w.heap.size + 1, 1, none⟩ (.int .i64 0)).setCell ⟨w.heap.size + 1, 2, none⟩ (.int .i64 0)).setCell ⟨w.heap.size + 1, 3, none⟩ (.int .i64 0) = _)⟩
    have Z1 : Blk V (w.heap.size + 1) [.int .i64 0, .int .i64 0, .int .i64 0, .int .i64 0] := by rw [HV.out]; exact (((Y1.set 0 (.int .i64 0) (by simp)).set 1 (.int .i64 0) (by simp)).set 2 (.int .i64 0) (by simp)).set 3 (.int .i64 0) (by simp)
    have hBV : Bel w V := by rw [HV.out]; exact bel_set (bel_set (bel_set (bel_set hB1 (Nat.le_succ _) _) (Nat.le_succ _) _) (Nat.le_succ _) _) (Nat.le_succ _) _
    clear Y0 Y1 hok
    go_wp2
    rw [← HV.out]
    obtain ⟨z0, z1, z2, z3⟩ := cb_no HB.out
    exact bodyPost_ret (v := .agg #[.int .i64 0, .int .i64 0, .int .i64 0, .int .i64 0]) (by simp [results, Tryd.results12, go_sem, Z1.cell 0 (by simp), Z1.cell 1 (by simp), Z1.cell 2 (by simp), Z1.cell 3 (by simp)]) rfl ⟨by rw [z0, z1, z2, z3], hBV⟩
  · obtain ⟨L, m, rfl, hL, hk⟩ := celB_out hok
    have hm : m ≤ 25 := by omega
    obtain ⟨eA, eB, eC, eD⟩ := cb_yes hL hok
    have HA : Hid (cbA k L = plX (k * 2 ^ (2 * m)) ∧ cbB k L = plY (k * 2 ^ (2 * m)) ∧ cbC k L = plX (k * 2 ^ (2 * m)) + 2 ^ m - 1 ∧ cbD k L = plY (k * 2 ^ (2 * m)) + 2 ^ m - 1) := ⟨eA, eB, eC, eD⟩
    have h25 : (25 : Int) - (L : Int) = (m : Int) := by omega
    have hf := fst_lt hL hk
    have h2 : 2 ^ m ≤ 2 ^ 25 := two_le hm
    have h1 : 0 < 2 ^ m := Nat.pow_pos (by decide)
    have h0 : 0 < 2 ^ (2 * m) := Nat.pow_pos (by decide)
    have cF := first_any k L m w1 hL hk
    obtain ⟨⟨p0, p1⟩, p2, p3⟩ := pl_bd (k * 2 ^ (2 * m))
    obtain ⟨px, Hx⟩ : ∃ x, Hid (plX (k * 2 ^ (2 * m)) = x) := ⟨_, (rfl : plX (k * 2 ^ (2 * m)) = _)⟩
    obtain ⟨py, Hy⟩ : ∃ x, Hid (plY (k * 2 ^ (2 * m)) = x) := ⟨_, (rfl : plY (k * 2 ^ (2 * m)) = _)⟩
    rw [Hx.out] at p0 p1 HA; rw [Hy.out] at p2 p3 HA
    obtain ⟨f, Hf⟩ : ∃ f, Hid (k * 2 ^ (2 * m) = f) := ⟨_, (rfl : k * 2 ^ (2 * m) = _)⟩
    rw [Hf.out] at cF hf Hx Hy
    obtain ⟨b, Hb⟩ : ∃ f, Hid (2 ^ m = f) := ⟨_, (rfl : 2 ^ m = _)⟩
    have Hbi : ((2 : Int) ^ m) = (b : Int) := by rw [pow_i, Hb.out]
    rw [Hbi] at HA
    rw [Hb.out] at h1 h2
    clear eA eB eC eD hok hk
    go_wp2_with fail
    refine cF.mono ?_
    rintro e w2 ⟨rfl, hb2⟩
    have hB2 := bel_step hB1 hb2
    go_wp2_with fail
    refine (placeOf_any f _ (hT.bel hB2) (by omega)).mono ?_
    rintro e w3 ⟨rfl, hb3⟩
    have hB3 := bel_step hB2 hb3
    have K0 := (Y0.bel hb2).bel hb3
    have K1 := (Y1.bel hb2).bel hb3
    rw [Hx.out, Hy.out]
    have k1 := K0.cell 1 (by simp)
    have f0 := K1.free 0
    have f1 := K1.free 1
    have f2 := K1.free 2
    have f3 := K1.free 3
    have d0 := K1.cell 0 (by simp)
    have d1 := K1.cell 1 (by simp)
    have d2 := K1.cell 2 (by simp)
    have d3 := K1.cell 3 (by simp)
    simp only [List.getElem_cons_zero, List.getElem_cons_succ] at k1 d0 d1 d2 d3
    have l0 := K0.lt
    have l1 := K1.lt
    obtain ⟨V, HV⟩ : ∃ V, Hid (V = (((w3.setCell ⟨w.heap.size + 1, 0, none⟩ (.int .i64 px)).setCell ⟨w.heap.size + 1, 1, none⟩ (.int .i64 py)).setCell ⟨w.heap.size + 1, 2, none⟩ (.int .i64 (px + b - 1))).setCell ⟨w.heap.size + 1, 3, none⟩ (.int .i64 (py + b - 1))) := ⟨_, (rfl : (((w3.setCell ⟨w.heap.size + 1, 0, none⟩ (.int .i64 px)).setCell ⟨w.heap.size + 1, 1, none⟩ (.int .i64 py)).setCell ⟨w.heap.size + 1, 2, none⟩ (.int .i64 (px + b - 1))).setCell ⟨w.heap.size + 1, 3, none⟩ (.int .i64 (py + b - 1)) = _)⟩
    have Z1 : Blk V (w.heap.size + 1) [.int .i64 px, .int .i64 py, .int .i64 (px + b - 1), .int .i64 (py + b - 1)] := by rw [HV.out]; exact (((K1.set 0 (.int .i64 px) (by simp)).set 1 (.int .i64 py) (by simp)).set 2 (.int .i64 (px + b - 1)) (by simp)).set 3 (.int .i64 (py + b - 1)) (by simp)
    have hBV : Bel w V := by rw [HV.out]; exact bel_set (bel_set (bel_set (bel_set hB3 (Nat.le_succ _) _) (Nat.le_succ _) _) (Nat.le_succ _) _) (Nat.le_succ _) _
    have Z2 := Z1.bel (bel_alloc (Bel.refl V) (.cells #[.int .i64 px, .int .i64 py] 25))
    have z0 := Z2.cell 0 (by simp)
    have z1 := Z2.cell 1 (by simp)
    have z2 := Z2.cell 2 (by simp)
    have z3 := Z2.cell 3 (by simp)
    have HZ : Hid _ := And.intro z0 (And.intro z1 (And.intro z2 z3))
    clear c0 c1 hb2 hb3 cF z0 z1 z2 z3
    go_wp2
    rw [← HV.out]
    obtain ⟨z0, z1, z2, z3⟩ := HZ.out
    simp only [List.getElem_cons_zero, List.getElem_cons_succ] at z0 z1 z2 z3
    exact bodyPost_ret (v := .agg #[.int .i64 px, .int .i64 py, .int .i64 (px + b - 1), .int .i64 (py + b - 1)]) (by simp [results, Tryd.results12, go_sem, z0, z1, z2, z3]) rfl ⟨by rw [HA.out.1, HA.out.2.1, HA.out.2.2.1, HA.out.2.2.2], bel_alloc hBV _⟩

end Go.Proofs.YtkncogipffofeaaDoor
