/-
  Contracts of PointOf, and of what a cell can be, where it begins and its box: for every code, for every cell, in the program and in its model.
-/
import Derived.Test.YtkncogipffofeaaDoorPlcC
namespace Go.Proofs.YtkncogipffofeaaDoor
open Go.RowKit

/-- The code has a point. -/
def pofB (c : Nat) : Bool := decide (c < 1125899906842624) && pok (plX c) (plY c)
def pofX (c : Nat) : Int := if pofB c = true then plX c else 0
def pofY (c : Nat) : Int := if pofB c = true then plY c else 0
theorem pof_no {c : Nat} (h : pofB c = false) : pofX c = 0 ∧ pofY c = 0 := ⟨if_neg (by rw [h]; exact Bool.false_ne_true), if_neg (by rw [h]; exact Bool.false_ne_true)⟩
theorem pof_yes {c : Nat} (h : pofB c = true) : pofX c = plX c ∧ pofY c = plY c := ⟨if_pos h, if_pos h⟩

set_option maxRecDepth 100000 in
set_option maxHeartbeats 1000000 in
theorem pointOf_any (c : Nat) (w : World) (hT : GtTab w) (hc : c < 18446744073709551616) :
    Calls Tryd.prog 9 #[.int .u64 c] w fun e w' => e = .returned (.tuple #[pt (pofX c) (pofY c), .bool (pofB c)]) ∧ Bel w w' := by
  by_cases hl : c < 1125899906842624
  · have hd : (c : Int) / 1125899906842624 = 0 := by omega
    go_enter Tryd.func9, Tryd.ntmps9
    go_wp2_with fail
    refine (placeOf_any _ _ (hT.bel (bel_alloc (Bel.refl _) _)) hl).mono ?_
    rintro e w1 ⟨rfl, hb1⟩
    have X1 : Blk w1 w.heap.size [.int .i64 0, .int .i64 0] := (Blk.new w [.int .i64 0, .int .i64 0] _).bel hb1
    have hB1 : Bel w w1 := bel_step (bel_alloc (Bel.refl _) _) hb1
    obtain ⟨px, hpx⟩ : ∃ x, plX c = x := ⟨_, rfl⟩
    obtain ⟨py, hpy⟩ : ∃ x, plY c = x := ⟨_, rfl⟩
    rw [hpx, hpy]
    have hB : pofB c = pok px py := by unfold pofB; rw [hpx, hpy, decide_eq_true hl]; rfl
    go_wp2_with fail
    refine (pointOk_any _ _ _).mono ?_
    rintro e w2 ⟨rfl, hb2⟩
    have X2 : Blk w2 w.heap.size [.int .i64 0, .int .i64 0] := (X1.bel (bel_alloc (Bel.refl _) _)).bel hb2
    have Y2 : Blk w2 w1.heap.size [.int .i64 px, .int .i64 py] := (Blk.new w1 [.int .i64 px, .int .i64 py] _).bel hb2
    have hB2 : Bel w w2 := bel_step (bel_alloc hB1 _) hb2
    have c0 := Y2.cell 0 (by simp)
    have c1 := Y2.cell 1 (by simp)
    have d0 := X2.cell 0 (by simp)
    have d1 := X2.cell 1 (by simp)
    have f0 := X2.free 0
    have f1 := X2.free 1
    simp only [List.getElem_cons_zero, List.getElem_cons_succ] at c0 c1 d0 d1
    clear hb1 hb2 X1 Y2 hT
    cases hok : pok px py
    · have HB : Hid (pofB c = false) := hB.trans hok
      have Z : Hid (Blk ((w2.setCell ⟨w.heap.size, 0, none⟩ (.int .i64 0)).setCell ⟨w.heap.size, 1, none⟩ (.int .i64 0)) w.heap.size [.int .i64 0, .int .i64 0]) := (X2.set 0 (.int .i64 0) (by simp)).set 1 (.int .i64 0) (by simp)
      clear X2
      go_wp2
      exact bodyPost_ret (v := .tuple #[pt 0 0, .bool false]) (by simp [results, Tryd.results9, go_sem, Z.out.cell 0 (by simp), Z.out.cell 1 (by simp)]) rfl ⟨by rw [HB.out, (pof_no HB.out).1, (pof_no HB.out).2], bel_set (bel_set hB2 (Nat.le_refl _) _) (Nat.le_refl _) _⟩
    · have HB : Hid (pofB c = true) := hB.trans hok
      have Z : Hid (Blk ((w2.setCell ⟨w.heap.size, 0, none⟩ (.int .i64 px)).setCell ⟨w.heap.size, 1, none⟩ (.int .i64 py)) w.heap.size [.int .i64 px, .int .i64 py]) := (X2.set 0 (.int .i64 px) (by simp)).set 1 (.int .i64 py) (by simp)
      clear X2
      go_wp2
      exact bodyPost_ret (v := .tuple #[pt px py, .bool true]) (by simp [results, Tryd.results9, go_sem, Z.out.cell 0 (by simp), Z.out.cell 1 (by simp)]) rfl ⟨by rw [HB.out, (pof_yes HB.out).1, (pof_yes HB.out).2, hpx, hpy], bel_set (bel_set hB2 (Nat.le_refl _) _) (Nat.le_refl _) _⟩
  · have hd : ¬ (c : Int) / 1125899906842624 = 0 := by omega
    have HB : Hid (pofB c = false) := by show pofB c = false; unfold pofB; rw [decide_eq_false hl]; rfl
    go_enter Tryd.func9, Tryd.ntmps9
    go_wp2
    exact bodyPost_ret (v := .tuple #[pt 0 0, .bool false]) (by simp [results, Tryd.results9, go_sem]) rfl ⟨by rw [HB.out, (pof_no HB.out).1, (pof_no HB.out).2], bel_alloc (Bel.refl _) _⟩
/-- A cell can be. -/
def celB (k : Nat) (l : Int) : Bool := decide (0 ≤ l) && (decide (l ≤ 25) && decide (k < 2 ^ (2 * l.toNat)))
abbrev cel (k : Nat) (l : Int) : Value := .agg #[.int .u64 (k : Int), .int .i64 l]
theorem celB_in {k L : Nat} (h : L ≤ 25) : celB k (L : Int) = decide (k < 2 ^ (2 * L)) := by
  unfold celB; rw [decide_eq_true (by omega), decide_eq_true (by omega), Int.toNat_natCast]; rfl
theorem celB_lo {k : Nat} {l : Int} (h : l < 0) : celB k l = false := by unfold celB; rw [decide_eq_false (by omega)]; rfl
theorem celB_hi {k : Nat} {l : Int} (h : 25 < l) : celB k l = false := by unfold celB; rw [decide_eq_true (by omega), decide_eq_false (by omega)]; rfl
theorem div_pow_lt {k n : Nat} (h : k < 2 ^ n) : (k : Int) / 2 ^ n = 0 := by
  rw [pow_i]; exact Int.ediv_eq_zero_of_lt (by omega) (by omega)
theorem div_pow_ge {k n : Nat} (h : ¬ k < 2 ^ n) : ¬ (k : Int) / 2 ^ n = 0 := by
  rw [pow_i, ← Int.natCast_ediv]
  have := Nat.div_pos (Nat.not_lt.1 h) (Nat.pow_pos (n := n) (show 0 < 2 by decide))
  omega

set_option maxRecDepth 100000 in
set_option maxHeartbeats 1000000 in
theorem canBe_any (k : Nat) (l : Int) (w : World) :
    Calls Tryd.prog 23 #[cel k l] w fun e w' => e = .returned (.bool (celB k l)) ∧ Bel w w' := by
  have hB : Bel w (w.alloc (.cells #[.int .u64 (k : Int), .int .i64 l] 34)) := bel_alloc (Bel.refl _) _
  by_cases h0 : l < 0
  · have h0' : ¬ 0 ≤ l := by omega
    rw [celB_lo h0]
    go_enter Tryd.func23, Tryd.ntmps23
    go_wp2
    go_ret
    exact ⟨rfl, hB⟩
  · have h0' : 0 ≤ l := by omega
    by_cases h1 : 25 < l
    · have h1' : ¬ l ≤ 25 := by omega
      rw [celB_hi h1]
      go_enter Tryd.func23, Tryd.ntmps23
      go_wp2
      go_ret
      exact ⟨rfl, hB⟩
    · obtain ⟨L, rfl⟩ : ∃ L : Nat, l = L := ⟨l.toNat, by omega⟩
      have hL : L ≤ 25 := by omega
      rw [celB_in hL]
      by_cases hk : k < 2 ^ (2 * L)
      · have hd := div_pow_lt hk
        rw [decide_eq_true hk]
        go_enter Tryd.func23, Tryd.ntmps23
        go_wp2
        go_ret
        exact ⟨rfl, hB⟩
      · have hd : ((k : Int) / 2 ^ (2 * L) == 0) = false := by simpa using div_pow_ge hk
        rw [decide_eq_false hk]
        go_enter Tryd.func23, Tryd.ntmps23
        go_wp2
        go_ret
        exact ⟨rfl, hB⟩
end Go.Proofs.YtkncogipffofeaaDoor
