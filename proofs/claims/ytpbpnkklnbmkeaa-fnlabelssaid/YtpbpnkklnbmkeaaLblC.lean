/-
  What is asked of one label, in the program and in its model; its room; whether two overlap: contracts, for every label.
-/
import Derived.Test.YtpbpnkklnbmkeaaLblD
namespace Go.Proofs.Ytpbpnkklnbmkeaa
open Go.RowKit Go.Maps

def idQ (x : Int) : Bool := decide (0 < x) && decide (x ≤ 1000000000)
def lszK (n : Int) : Bool := decide (1 ≤ n) && decide (n ≤ 100000)
/-- A label can be. -/
def lblK (d : LblD) : Bool := idQ d.id && (pok d.x d.y && (lszK d.wd && (lszK d.ht && (decide (0 ≤ d.rk) && decide (d.rk ≤ 1000)))))
theorem lblK_out {d : LblD} (h : lblK d = true) : (0 < d.id ∧ d.id ≤ 1000000000) ∧ (-10000000 ≤ d.x ∧ d.x ≤ 10000000 ∧ -10000000 ≤ d.y ∧ d.y ≤ 10000000) ∧ (1 ≤ d.wd ∧ d.wd ≤ 100000) ∧ (1 ≤ d.ht ∧ d.ht ≤ 100000) ∧ 0 ≤ d.rk ∧ d.rk ≤ 1000 := by
  simp only [lblK, idQ, pok, cok, lszK, Bool.and_eq_true, decide_eq_true_eq] at h
  omega

theorem idOkQ_any (x : Int) (r : Bool) (w : World) (h : idQ x = r) :
    Calls Try.prog 50 #[.int .i64 x] w fun e w' => e = .returned (.bool r) ∧ w' = w := by
  subst h
  by_cases h1 : 0 < x <;> by_cases h2 : x ≤ 1000000000 <;> (
    go_enter Try.func50, Try.ntmps50
    go_wp2
    go_ret
    exact ⟨ret_bl (by unfold idQ; simp <;> omega), rfl⟩)
theorem l2IdOkQ_any (x : Int) (r : Bool) (w : World) (h : idQ x = r) :
    Calls Try.prog 103 #[.int .i64 x] w fun e w' => e = .returned (.bool r) ∧ w' = w := by
  subst h
  by_cases h1 : 1 ≤ x <;> by_cases h2 : x ≤ 1000000000 <;> (
    go_enter Try.func103, Try.ntmps103
    go_wp2
    go_ret
    exact ⟨ret_bl (by unfold idQ; simp <;> omega), rfl⟩)
theorem roomSizeOk_any (x : Int) (r : Bool) (w : World) (h : lszK x = r) :
    Calls Try.prog 52 #[.int .i64 x] w fun e w' => e = .returned (.bool r) ∧ w' = w := by
  subst h
  by_cases h1 : 1 ≤ x <;> by_cases h2 : x ≤ 100000 <;> (
    go_enter Try.func52, Try.ntmps52
    go_wp2
    go_ret
    exact ⟨ret_bl (by unfold lszK; simp <;> omega), rfl⟩)

set_option maxHeartbeats 2000000 in
theorem lblCan_any (d : LblD) (w : World) :
    Calls Try.prog 29 #[lbv d] w fun e w' => e = .returned (.bool (lblK d)) ∧ Bel w w' := by
  have hB0 : Bel w (w.alloc (.cells #[.int .i64 d.id, .int .i64 d.x, .int .i64 d.y, .int .i64 d.wd, .int .i64 d.ht, .int .i64 d.rk] 33)) := bel_alloc (Bel.refl _) _
  have X0 : Blk (w.alloc (.cells #[.int .i64 d.id, .int .i64 d.x, .int .i64 d.y, .int .i64 d.wd, .int .i64 d.ht, .int .i64 d.rk] 33)) w.heap.size [.int .i64 d.id, .int .i64 d.x, .int .i64 d.y, .int .i64 d.wd, .int .i64 d.ht, .int .i64 d.rk] := Blk.new w [.int .i64 d.id, .int .i64 d.x, .int .i64 d.y, .int .i64 d.wd, .int .i64 d.ht, .int .i64 d.rk] _
  rcases Bool.eq_false_or_eq_true (idQ d.id) with k0 | k0
  · skip
    rcases Bool.eq_false_or_eq_true (pok d.x d.y) with k1 | k1
    · skip
      rcases Bool.eq_false_or_eq_true (lszK d.wd) with k2 | k2
      · skip
        rcases Bool.eq_false_or_eq_true (lszK d.ht) with k3 | k3
        · skip
          by_cases k4 : 0 ≤ d.rk
          · skip
            rcases Bool.eq_false_or_eq_true (decide (d.rk ≤ 1000)) with q | q
            · have k5 := of_decide_eq_true q
              have HF : Hid (true = lblK d) := (by symm; simp only [lblK, Bool.and_eq_true, decide_eq_true_eq]; refine ⟨k0, k1, ?_, ?_, ?_, ?_⟩ <;> first | assumption | (simp only [lszK, Bool.and_eq_true, decide_eq_true_eq]; omega) | omega : true = lblK d)
              go_enter Try.func29, Try.ntmps29
              go_wp2_with fail
              refine (idOkQ_any _ _ _ k0).mono ?_
              rintro e w' ⟨rfl, rfl⟩
              go_wp2_with fail
              refine (pointOk_any _ _ _).mono ?_
              rintro e w1 ⟨rfl, hb1⟩
              rw [k1]
              have hB1 := bel_step hB0 hb1
              have X1 := X0.bel hb1
              have c0 : w1.cell? ⟨w.heap.size, 0, none⟩ = some (.int .i64 d.id) := X1.cell 0 (by simp)
              have c1 : w1.cell? ⟨w.heap.size, 1, none⟩ = some (.int .i64 d.x) := X1.cell 1 (by simp)
              have c2 : w1.cell? ⟨w.heap.size, 2, none⟩ = some (.int .i64 d.y) := X1.cell 2 (by simp)
              have c3 : w1.cell? ⟨w.heap.size, 3, none⟩ = some (.int .i64 d.wd) := X1.cell 3 (by simp)
              have c4 : w1.cell? ⟨w.heap.size, 4, none⟩ = some (.int .i64 d.ht) := X1.cell 4 (by simp)
              have c5 : w1.cell? ⟨w.heap.size, 5, none⟩ = some (.int .i64 d.rk) := X1.cell 5 (by simp)
              have xl := X1.lt
              clear X0 X1 hb1 hB0
              go_wp2_with fail
              refine (roomSizeOk_any _ _ _ k2).mono ?_
              rintro e w' ⟨rfl, rfl⟩
              go_wp2_with fail
              refine (roomSizeOk_any _ _ _ k3).mono ?_
              rintro e w' ⟨rfl, rfl⟩
              go_wp2
              go_ret
              exact ⟨ret_bl HF.out, hB1⟩
            · have k5 := of_decide_eq_false q
              have HF : Hid (false = lblK d) := (by symm; rw [Bool.eq_false_iff]; intro h; have h := lblK_out h; omega : false = lblK d)
              go_enter Try.func29, Try.ntmps29
              go_wp2_with fail
              refine (idOkQ_any _ _ _ k0).mono ?_
              rintro e w' ⟨rfl, rfl⟩
              go_wp2_with fail
              refine (pointOk_any _ _ _).mono ?_
              rintro e w1 ⟨rfl, hb1⟩
              rw [k1]
              have hB1 := bel_step hB0 hb1
              have X1 := X0.bel hb1
              have c0 : w1.cell? ⟨w.heap.size, 0, none⟩ = some (.int .i64 d.id) := X1.cell 0 (by simp)
              have c1 : w1.cell? ⟨w.heap.size, 1, none⟩ = some (.int .i64 d.x) := X1.cell 1 (by simp)
              have c2 : w1.cell? ⟨w.heap.size, 2, none⟩ = some (.int .i64 d.y) := X1.cell 2 (by simp)
              have c3 : w1.cell? ⟨w.heap.size, 3, none⟩ = some (.int .i64 d.wd) := X1.cell 3 (by simp)
              have c4 : w1.cell? ⟨w.heap.size, 4, none⟩ = some (.int .i64 d.ht) := X1.cell 4 (by simp)
              have c5 : w1.cell? ⟨w.heap.size, 5, none⟩ = some (.int .i64 d.rk) := X1.cell 5 (by simp)
              have xl := X1.lt
              clear X0 X1 hb1 hB0
              go_wp2_with fail
              refine (roomSizeOk_any _ _ _ k2).mono ?_
              rintro e w' ⟨rfl, rfl⟩
              go_wp2_with fail
              refine (roomSizeOk_any _ _ _ k3).mono ?_
              rintro e w' ⟨rfl, rfl⟩
              go_wp2
              go_ret
              exact ⟨ret_bl HF.out, hB1⟩
          · skip
            have HF : Hid (false = lblK d) := (by symm; rw [Bool.eq_false_iff]; intro h; simp only [lblK, Bool.and_eq_true, decide_eq_true_eq] at h; obtain ⟨q0, q1, q2, q3, q4, q5⟩ := h; first | (simp_all; done) | (simp only [lszK, Bool.and_eq_true, decide_eq_true_eq] at q2 q3; omega) : false = lblK d)
            go_enter Try.func29, Try.ntmps29
            go_wp2_with fail
            refine (idOkQ_any _ _ _ k0).mono ?_
            rintro e w' ⟨rfl, rfl⟩
            go_wp2_with fail
            refine (pointOk_any _ _ _).mono ?_
            rintro e w1 ⟨rfl, hb1⟩
            rw [k1]
            have hB1 := bel_step hB0 hb1
            have X1 := X0.bel hb1
            have c0 : w1.cell? ⟨w.heap.size, 0, none⟩ = some (.int .i64 d.id) := X1.cell 0 (by simp)
            have c1 : w1.cell? ⟨w.heap.size, 1, none⟩ = some (.int .i64 d.x) := X1.cell 1 (by simp)
            have c2 : w1.cell? ⟨w.heap.size, 2, none⟩ = some (.int .i64 d.y) := X1.cell 2 (by simp)
            have c3 : w1.cell? ⟨w.heap.size, 3, none⟩ = some (.int .i64 d.wd) := X1.cell 3 (by simp)
            have c4 : w1.cell? ⟨w.heap.size, 4, none⟩ = some (.int .i64 d.ht) := X1.cell 4 (by simp)
            have c5 : w1.cell? ⟨w.heap.size, 5, none⟩ = some (.int .i64 d.rk) := X1.cell 5 (by simp)
            have xl := X1.lt
            clear X0 X1 hb1 hB0
            go_wp2_with fail
            refine (roomSizeOk_any _ _ _ k2).mono ?_
            rintro e w' ⟨rfl, rfl⟩
            go_wp2_with fail
            refine (roomSizeOk_any _ _ _ k3).mono ?_
            rintro e w' ⟨rfl, rfl⟩
            go_wp2
            go_ret
            exact ⟨ret_bl HF.out, hB1⟩
        · skip
          have HF : Hid (false = lblK d) := (by symm; rw [Bool.eq_false_iff]; intro h; simp only [lblK, Bool.and_eq_true, decide_eq_true_eq] at h; obtain ⟨q0, q1, q2, q3, q4, q5⟩ := h; first | (simp_all; done) | (simp only [lszK, Bool.and_eq_true, decide_eq_true_eq] at q2 q3; omega) : false = lblK d)
          go_enter Try.func29, Try.ntmps29
          go_wp2_with fail
          refine (idOkQ_any _ _ _ k0).mono ?_
          rintro e w' ⟨rfl, rfl⟩
          go_wp2_with fail
          refine (pointOk_any _ _ _).mono ?_
          rintro e w1 ⟨rfl, hb1⟩
          rw [k1]
          have hB1 := bel_step hB0 hb1
          have X1 := X0.bel hb1
          have c0 : w1.cell? ⟨w.heap.size, 0, none⟩ = some (.int .i64 d.id) := X1.cell 0 (by simp)
          have c1 : w1.cell? ⟨w.heap.size, 1, none⟩ = some (.int .i64 d.x) := X1.cell 1 (by simp)
          have c2 : w1.cell? ⟨w.heap.size, 2, none⟩ = some (.int .i64 d.y) := X1.cell 2 (by simp)
          have c3 : w1.cell? ⟨w.heap.size, 3, none⟩ = some (.int .i64 d.wd) := X1.cell 3 (by simp)
          have c4 : w1.cell? ⟨w.heap.size, 4, none⟩ = some (.int .i64 d.ht) := X1.cell 4 (by simp)
          have c5 : w1.cell? ⟨w.heap.size, 5, none⟩ = some (.int .i64 d.rk) := X1.cell 5 (by simp)
          have xl := X1.lt
          clear X0 X1 hb1 hB0
          go_wp2_with fail
          refine (roomSizeOk_any _ _ _ k2).mono ?_
          rintro e w' ⟨rfl, rfl⟩
          go_wp2_with fail
          refine (roomSizeOk_any _ _ _ k3).mono ?_
          rintro e w' ⟨rfl, rfl⟩
          go_wp2
          go_ret
          exact ⟨ret_bl HF.out, hB1⟩
      · skip
        have HF : Hid (false = lblK d) := (by symm; rw [Bool.eq_false_iff]; intro h; simp only [lblK, Bool.and_eq_true, decide_eq_true_eq] at h; obtain ⟨q0, q1, q2, q3, q4, q5⟩ := h; first | (simp_all; done) | (simp only [lszK, Bool.and_eq_true, decide_eq_true_eq] at q2 q3; omega) : false = lblK d)
        go_enter Try.func29, Try.ntmps29
        go_wp2_with fail
        refine (idOkQ_any _ _ _ k0).mono ?_
        rintro e w' ⟨rfl, rfl⟩
        go_wp2_with fail
        refine (pointOk_any _ _ _).mono ?_
        rintro e w1 ⟨rfl, hb1⟩
        rw [k1]
        have hB1 := bel_step hB0 hb1
        have X1 := X0.bel hb1
        have c0 : w1.cell? ⟨w.heap.size, 0, none⟩ = some (.int .i64 d.id) := X1.cell 0 (by simp)
        have c1 : w1.cell? ⟨w.heap.size, 1, none⟩ = some (.int .i64 d.x) := X1.cell 1 (by simp)
        have c2 : w1.cell? ⟨w.heap.size, 2, none⟩ = some (.int .i64 d.y) := X1.cell 2 (by simp)
        have c3 : w1.cell? ⟨w.heap.size, 3, none⟩ = some (.int .i64 d.wd) := X1.cell 3 (by simp)
        have c4 : w1.cell? ⟨w.heap.size, 4, none⟩ = some (.int .i64 d.ht) := X1.cell 4 (by simp)
        have c5 : w1.cell? ⟨w.heap.size, 5, none⟩ = some (.int .i64 d.rk) := X1.cell 5 (by simp)
        have xl := X1.lt
        clear X0 X1 hb1 hB0
        go_wp2_with fail
        refine (roomSizeOk_any _ _ _ k2).mono ?_
        rintro e w' ⟨rfl, rfl⟩
        go_wp2
        go_ret
        exact ⟨ret_bl HF.out, hB1⟩
    · skip
      have HF : Hid (false = lblK d) := (by symm; rw [Bool.eq_false_iff]; intro h; simp only [lblK, Bool.and_eq_true, decide_eq_true_eq] at h; obtain ⟨q0, q1, q2, q3, q4, q5⟩ := h; first | (simp_all; done) | (simp only [lszK, Bool.and_eq_true, decide_eq_true_eq] at q2 q3; omega) : false = lblK d)
      go_enter Try.func29, Try.ntmps29
      go_wp2_with fail
      refine (idOkQ_any _ _ _ k0).mono ?_
      rintro e w' ⟨rfl, rfl⟩
      go_wp2_with fail
      refine (pointOk_any _ _ _).mono ?_
      rintro e w1 ⟨rfl, hb1⟩
      rw [k1]
      have hB1 := bel_step hB0 hb1
      have X1 := X0.bel hb1
      have c0 : w1.cell? ⟨w.heap.size, 0, none⟩ = some (.int .i64 d.id) := X1.cell 0 (by simp)
      have c1 : w1.cell? ⟨w.heap.size, 1, none⟩ = some (.int .i64 d.x) := X1.cell 1 (by simp)
      have c2 : w1.cell? ⟨w.heap.size, 2, none⟩ = some (.int .i64 d.y) := X1.cell 2 (by simp)
      have c3 : w1.cell? ⟨w.heap.size, 3, none⟩ = some (.int .i64 d.wd) := X1.cell 3 (by simp)
      have c4 : w1.cell? ⟨w.heap.size, 4, none⟩ = some (.int .i64 d.ht) := X1.cell 4 (by simp)
      have c5 : w1.cell? ⟨w.heap.size, 5, none⟩ = some (.int .i64 d.rk) := X1.cell 5 (by simp)
      have xl := X1.lt
      clear X0 X1 hb1 hB0
      go_wp2
      go_ret
      exact ⟨ret_bl HF.out, hB1⟩
  · skip
    have HF : Hid (false = lblK d) := (by symm; rw [Bool.eq_false_iff]; intro h; simp only [lblK, Bool.and_eq_true, decide_eq_true_eq] at h; obtain ⟨q0, q1, q2, q3, q4, q5⟩ := h; first | (simp_all; done) | (simp only [lszK, Bool.and_eq_true, decide_eq_true_eq] at q2 q3; omega) : false = lblK d)
    go_enter Try.func29, Try.ntmps29
    go_wp2_with fail
    refine (idOkQ_any _ _ _ k0).mono ?_
    rintro e w' ⟨rfl, rfl⟩
    go_wp2
    go_ret
    exact ⟨ret_bl HF.out, hB0⟩

set_option maxHeartbeats 2000000 in
theorem l8Ok_any (d : LblD) (w : World) :
    Calls Try.prog 83 #[lbv d] w fun e w' => e = .returned (.bool (lblK d)) ∧ Bel w w' := by
  have hB0 : Bel w (w.alloc (.cells #[.int .i64 d.id, .int .i64 d.x, .int .i64 d.y, .int .i64 d.wd, .int .i64 d.ht, .int .i64 d.rk] 33)) := bel_alloc (Bel.refl _) _
  have X0 : Blk (w.alloc (.cells #[.int .i64 d.id, .int .i64 d.x, .int .i64 d.y, .int .i64 d.wd, .int .i64 d.ht, .int .i64 d.rk] 33)) w.heap.size [.int .i64 d.id, .int .i64 d.x, .int .i64 d.y, .int .i64 d.wd, .int .i64 d.ht, .int .i64 d.rk] := Blk.new w [.int .i64 d.id, .int .i64 d.x, .int .i64 d.y, .int .i64 d.wd, .int .i64 d.ht, .int .i64 d.rk] _
  rcases Bool.eq_false_or_eq_true (idQ d.id) with k0 | k0
  · skip
    rcases Bool.eq_false_or_eq_true (pok d.x d.y) with k1 | k1
    · skip
      by_cases k2 : 1 ≤ d.wd
      · skip
        by_cases k3 : d.wd ≤ 100000
        · skip
          by_cases k4 : 1 ≤ d.ht
          · skip
            by_cases k5 : d.ht ≤ 100000
            · skip
              by_cases k6 : 0 ≤ d.rk
              · skip
                rcases Bool.eq_false_or_eq_true (decide (d.rk ≤ 1000)) with q | q
                · have k7 := of_decide_eq_true q
                  have HF : Hid (true = lblK d) := (by symm; simp only [lblK, Bool.and_eq_true, decide_eq_true_eq]; refine ⟨k0, k1, ?_, ?_, ?_, ?_⟩ <;> first | assumption | (simp only [lszK, Bool.and_eq_true, decide_eq_true_eq]; omega) | omega : true = lblK d)
                  go_enter Try.func83, Try.ntmps83
                  go_wp2_with fail
                  refine (l2IdOkQ_any _ _ _ k0).mono ?_
                  rintro e w' ⟨rfl, rfl⟩
                  go_wp2_with fail
                  refine (specPointOk_any _ _ _).mono ?_
                  rintro e w1 ⟨rfl, hb1⟩
                  rw [k1]
                  have hB1 := bel_step hB0 hb1
                  have X1 := X0.bel hb1
                  have c0 : w1.cell? ⟨w.heap.size, 0, none⟩ = some (.int .i64 d.id) := X1.cell 0 (by simp)
                  have c1 : w1.cell? ⟨w.heap.size, 1, none⟩ = some (.int .i64 d.x) := X1.cell 1 (by simp)
                  have c2 : w1.cell? ⟨w.heap.size, 2, none⟩ = some (.int .i64 d.y) := X1.cell 2 (by simp)
                  have c3 : w1.cell? ⟨w.heap.size, 3, none⟩ = some (.int .i64 d.wd) := X1.cell 3 (by simp)
                  have c4 : w1.cell? ⟨w.heap.size, 4, none⟩ = some (.int .i64 d.ht) := X1.cell 4 (by simp)
                  have c5 : w1.cell? ⟨w.heap.size, 5, none⟩ = some (.int .i64 d.rk) := X1.cell 5 (by simp)
                  have xl := X1.lt
                  clear X0 X1 hb1 hB0
                  go_wp2
                  go_ret
                  exact ⟨ret_bl HF.out, hB1⟩
                · have k7 := of_decide_eq_false q
                  have HF : Hid (false = lblK d) := (by symm; rw [Bool.eq_false_iff]; intro h; have h := lblK_out h; omega : false = lblK d)
                  go_enter Try.func83, Try.ntmps83
                  go_wp2_with fail
                  refine (l2IdOkQ_any _ _ _ k0).mono ?_
                  rintro e w' ⟨rfl, rfl⟩
                  go_wp2_with fail
                  refine (specPointOk_any _ _ _).mono ?_
                  rintro e w1 ⟨rfl, hb1⟩
                  rw [k1]
                  have hB1 := bel_step hB0 hb1
                  have X1 := X0.bel hb1
                  have c0 : w1.cell? ⟨w.heap.size, 0, none⟩ = some (.int .i64 d.id) := X1.cell 0 (by simp)
                  have c1 : w1.cell? ⟨w.heap.size, 1, none⟩ = some (.int .i64 d.x) := X1.cell 1 (by simp)
                  have c2 : w1.cell? ⟨w.heap.size, 2, none⟩ = some (.int .i64 d.y) := X1.cell 2 (by simp)
                  have c3 : w1.cell? ⟨w.heap.size, 3, none⟩ = some (.int .i64 d.wd) := X1.cell 3 (by simp)
                  have c4 : w1.cell? ⟨w.heap.size, 4, none⟩ = some (.int .i64 d.ht) := X1.cell 4 (by simp)
                  have c5 : w1.cell? ⟨w.heap.size, 5, none⟩ = some (.int .i64 d.rk) := X1.cell 5 (by simp)
                  have xl := X1.lt
                  clear X0 X1 hb1 hB0
                  go_wp2
                  go_ret
                  exact ⟨ret_bl HF.out, hB1⟩
              · skip
                have HF : Hid (false = lblK d) := (by symm; rw [Bool.eq_false_iff]; intro h; simp only [lblK, Bool.and_eq_true, decide_eq_true_eq] at h; obtain ⟨q0, q1, q2, q3, q4, q5⟩ := h; first | (simp_all; done) | (simp only [lszK, Bool.and_eq_true, decide_eq_true_eq] at q2 q3; omega) : false = lblK d)
                go_enter Try.func83, Try.ntmps83
                go_wp2_with fail
                refine (l2IdOkQ_any _ _ _ k0).mono ?_
                rintro e w' ⟨rfl, rfl⟩
                go_wp2_with fail
                refine (specPointOk_any _ _ _).mono ?_
                rintro e w1 ⟨rfl, hb1⟩
                rw [k1]
                have hB1 := bel_step hB0 hb1
                have X1 := X0.bel hb1
                have c0 : w1.cell? ⟨w.heap.size, 0, none⟩ = some (.int .i64 d.id) := X1.cell 0 (by simp)
                have c1 : w1.cell? ⟨w.heap.size, 1, none⟩ = some (.int .i64 d.x) := X1.cell 1 (by simp)
                have c2 : w1.cell? ⟨w.heap.size, 2, none⟩ = some (.int .i64 d.y) := X1.cell 2 (by simp)
                have c3 : w1.cell? ⟨w.heap.size, 3, none⟩ = some (.int .i64 d.wd) := X1.cell 3 (by simp)
                have c4 : w1.cell? ⟨w.heap.size, 4, none⟩ = some (.int .i64 d.ht) := X1.cell 4 (by simp)
                have c5 : w1.cell? ⟨w.heap.size, 5, none⟩ = some (.int .i64 d.rk) := X1.cell 5 (by simp)
                have xl := X1.lt
                clear X0 X1 hb1 hB0
                go_wp2
                go_ret
                exact ⟨ret_bl HF.out, hB1⟩
            · skip
              have HF : Hid (false = lblK d) := (by symm; rw [Bool.eq_false_iff]; intro h; simp only [lblK, Bool.and_eq_true, decide_eq_true_eq] at h; obtain ⟨q0, q1, q2, q3, q4, q5⟩ := h; first | (simp_all; done) | (simp only [lszK, Bool.and_eq_true, decide_eq_true_eq] at q2 q3; omega) : false = lblK d)
              go_enter Try.func83, Try.ntmps83
              go_wp2_with fail
              refine (l2IdOkQ_any _ _ _ k0).mono ?_
              rintro e w' ⟨rfl, rfl⟩
              go_wp2_with fail
              refine (specPointOk_any _ _ _).mono ?_
              rintro e w1 ⟨rfl, hb1⟩
              rw [k1]
              have hB1 := bel_step hB0 hb1
              have X1 := X0.bel hb1
              have c0 : w1.cell? ⟨w.heap.size, 0, none⟩ = some (.int .i64 d.id) := X1.cell 0 (by simp)
              have c1 : w1.cell? ⟨w.heap.size, 1, none⟩ = some (.int .i64 d.x) := X1.cell 1 (by simp)
              have c2 : w1.cell? ⟨w.heap.size, 2, none⟩ = some (.int .i64 d.y) := X1.cell 2 (by simp)
              have c3 : w1.cell? ⟨w.heap.size, 3, none⟩ = some (.int .i64 d.wd) := X1.cell 3 (by simp)
              have c4 : w1.cell? ⟨w.heap.size, 4, none⟩ = some (.int .i64 d.ht) := X1.cell 4 (by simp)
              have c5 : w1.cell? ⟨w.heap.size, 5, none⟩ = some (.int .i64 d.rk) := X1.cell 5 (by simp)
              have xl := X1.lt
              clear X0 X1 hb1 hB0
              go_wp2
              go_ret
              exact ⟨ret_bl HF.out, hB1⟩
          · skip
            have HF : Hid (false = lblK d) := (by symm; rw [Bool.eq_false_iff]; intro h; simp only [lblK, Bool.and_eq_true, decide_eq_true_eq] at h; obtain ⟨q0, q1, q2, q3, q4, q5⟩ := h; first | (simp_all; done) | (simp only [lszK, Bool.and_eq_true, decide_eq_true_eq] at q2 q3; omega) : false = lblK d)
            go_enter Try.func83, Try.ntmps83
            go_wp2_with fail
            refine (l2IdOkQ_any _ _ _ k0).mono ?_
            rintro e w' ⟨rfl, rfl⟩
            go_wp2_with fail
            refine (specPointOk_any _ _ _).mono ?_
            rintro e w1 ⟨rfl, hb1⟩
            rw [k1]
            have hB1 := bel_step hB0 hb1
            have X1 := X0.bel hb1
            have c0 : w1.cell? ⟨w.heap.size, 0, none⟩ = some (.int .i64 d.id) := X1.cell 0 (by simp)
            have c1 : w1.cell? ⟨w.heap.size, 1, none⟩ = some (.int .i64 d.x) := X1.cell 1 (by simp)
            have c2 : w1.cell? ⟨w.heap.size, 2, none⟩ = some (.int .i64 d.y) := X1.cell 2 (by simp)
            have c3 : w1.cell? ⟨w.heap.size, 3, none⟩ = some (.int .i64 d.wd) := X1.cell 3 (by simp)
            have c4 : w1.cell? ⟨w.heap.size, 4, none⟩ = some (.int .i64 d.ht) := X1.cell 4 (by simp)
            have c5 : w1.cell? ⟨w.heap.size, 5, none⟩ = some (.int .i64 d.rk) := X1.cell 5 (by simp)
            have xl := X1.lt
            clear X0 X1 hb1 hB0
            go_wp2
            go_ret
            exact ⟨ret_bl HF.out, hB1⟩
        · skip
          have HF : Hid (false = lblK d) := (by symm; rw [Bool.eq_false_iff]; intro h; simp only [lblK, Bool.and_eq_true, decide_eq_true_eq] at h; obtain ⟨q0, q1, q2, q3, q4, q5⟩ := h; first | (simp_all; done) | (simp only [lszK, Bool.and_eq_true, decide_eq_true_eq] at q2 q3; omega) : false = lblK d)
          go_enter Try.func83, Try.ntmps83
          go_wp2_with fail
          refine (l2IdOkQ_any _ _ _ k0).mono ?_
          rintro e w' ⟨rfl, rfl⟩
          go_wp2_with fail
          refine (specPointOk_any _ _ _).mono ?_
          rintro e w1 ⟨rfl, hb1⟩
          rw [k1]
          have hB1 := bel_step hB0 hb1
          have X1 := X0.bel hb1
          have c0 : w1.cell? ⟨w.heap.size, 0, none⟩ = some (.int .i64 d.id) := X1.cell 0 (by simp)
          have c1 : w1.cell? ⟨w.heap.size, 1, none⟩ = some (.int .i64 d.x) := X1.cell 1 (by simp)
          have c2 : w1.cell? ⟨w.heap.size, 2, none⟩ = some (.int .i64 d.y) := X1.cell 2 (by simp)
          have c3 : w1.cell? ⟨w.heap.size, 3, none⟩ = some (.int .i64 d.wd) := X1.cell 3 (by simp)
          have c4 : w1.cell? ⟨w.heap.size, 4, none⟩ = some (.int .i64 d.ht) := X1.cell 4 (by simp)
          have c5 : w1.cell? ⟨w.heap.size, 5, none⟩ = some (.int .i64 d.rk) := X1.cell 5 (by simp)
          have xl := X1.lt
          clear X0 X1 hb1 hB0
          go_wp2
          go_ret
          exact ⟨ret_bl HF.out, hB1⟩
      · skip
        have HF : Hid (false = lblK d) := (by symm; rw [Bool.eq_false_iff]; intro h; simp only [lblK, Bool.and_eq_true, decide_eq_true_eq] at h; obtain ⟨q0, q1, q2, q3, q4, q5⟩ := h; first | (simp_all; done) | (simp only [lszK, Bool.and_eq_true, decide_eq_true_eq] at q2 q3; omega) : false = lblK d)
        go_enter Try.func83, Try.ntmps83
        go_wp2_with fail
        refine (l2IdOkQ_any _ _ _ k0).mono ?_
        rintro e w' ⟨rfl, rfl⟩
        go_wp2_with fail
        refine (specPointOk_any _ _ _).mono ?_
        rintro e w1 ⟨rfl, hb1⟩
        rw [k1]
        have hB1 := bel_step hB0 hb1
        have X1 := X0.bel hb1
        have c0 : w1.cell? ⟨w.heap.size, 0, none⟩ = some (.int .i64 d.id) := X1.cell 0 (by simp)
        have c1 : w1.cell? ⟨w.heap.size, 1, none⟩ = some (.int .i64 d.x) := X1.cell 1 (by simp)
        have c2 : w1.cell? ⟨w.heap.size, 2, none⟩ = some (.int .i64 d.y) := X1.cell 2 (by simp)
        have c3 : w1.cell? ⟨w.heap.size, 3, none⟩ = some (.int .i64 d.wd) := X1.cell 3 (by simp)
        have c4 : w1.cell? ⟨w.heap.size, 4, none⟩ = some (.int .i64 d.ht) := X1.cell 4 (by simp)
        have c5 : w1.cell? ⟨w.heap.size, 5, none⟩ = some (.int .i64 d.rk) := X1.cell 5 (by simp)
        have xl := X1.lt
        clear X0 X1 hb1 hB0
        go_wp2
        go_ret
        exact ⟨ret_bl HF.out, hB1⟩
    · skip
      have HF : Hid (false = lblK d) := (by symm; rw [Bool.eq_false_iff]; intro h; simp only [lblK, Bool.and_eq_true, decide_eq_true_eq] at h; obtain ⟨q0, q1, q2, q3, q4, q5⟩ := h; first | (simp_all; done) | (simp only [lszK, Bool.and_eq_true, decide_eq_true_eq] at q2 q3; omega) : false = lblK d)
      go_enter Try.func83, Try.ntmps83
      go_wp2_with fail
      refine (l2IdOkQ_any _ _ _ k0).mono ?_
      rintro e w' ⟨rfl, rfl⟩
      go_wp2_with fail
      refine (specPointOk_any _ _ _).mono ?_
      rintro e w1 ⟨rfl, hb1⟩
      rw [k1]
      have hB1 := bel_step hB0 hb1
      have X1 := X0.bel hb1
      have c0 : w1.cell? ⟨w.heap.size, 0, none⟩ = some (.int .i64 d.id) := X1.cell 0 (by simp)
      have c1 : w1.cell? ⟨w.heap.size, 1, none⟩ = some (.int .i64 d.x) := X1.cell 1 (by simp)
      have c2 : w1.cell? ⟨w.heap.size, 2, none⟩ = some (.int .i64 d.y) := X1.cell 2 (by simp)
      have c3 : w1.cell? ⟨w.heap.size, 3, none⟩ = some (.int .i64 d.wd) := X1.cell 3 (by simp)
      have c4 : w1.cell? ⟨w.heap.size, 4, none⟩ = some (.int .i64 d.ht) := X1.cell 4 (by simp)
      have c5 : w1.cell? ⟨w.heap.size, 5, none⟩ = some (.int .i64 d.rk) := X1.cell 5 (by simp)
      have xl := X1.lt
      clear X0 X1 hb1 hB0
      go_wp2
      go_ret
      exact ⟨ret_bl HF.out, hB1⟩
  · skip
    have HF : Hid (false = lblK d) := (by symm; rw [Bool.eq_false_iff]; intro h; simp only [lblK, Bool.and_eq_true, decide_eq_true_eq] at h; obtain ⟨q0, q1, q2, q3, q4, q5⟩ := h; first | (simp_all; done) | (simp only [lszK, Bool.and_eq_true, decide_eq_true_eq] at q2 q3; omega) : false = lblK d)
    go_enter Try.func83, Try.ntmps83
    go_wp2_with fail
    refine (l2IdOkQ_any _ _ _ k0).mono ?_
    rintro e w' ⟨rfl, rfl⟩
    go_wp2
    go_ret
    exact ⟨ret_bl HF.out, hB0⟩

/-- The rooms of two labels have a place in common. -/
def ovB (d e : LblD) : Bool := decide (d.x < e.x + e.wd) && (decide (e.x < d.x + d.wd) && (decide (d.y < e.y + e.ht) && decide (e.y < d.y + d.ht)))
theorem ovB_iff {d e : LblD} : ovB d e = true ↔ (d.x < e.x + e.wd ∧ e.x < d.x + d.wd ∧ d.y < e.y + e.ht ∧ e.y < d.y + d.ht) := by simp [ovB]
def bmB (a b c d e f g h : Int) : Bool := decide (a ≤ g) && (decide (e ≤ c) && (decide (b ≤ h) && decide (f ≤ d)))
theorem bmB_ov (d e : LblD) : bmB d.x d.y (d.x + d.wd - 1) (d.y + d.ht - 1) e.x e.y (e.x + e.wd - 1) (e.y + e.ht - 1) = ovB d e := by
  rw [Bool.eq_iff_iff, ovB_iff]
  simp only [bmB, Bool.and_eq_true, decide_eq_true_eq]
  omega
set_option maxHeartbeats 1000000 in
theorem bm_any (a b c d e f g h : Int) (r : Bool) (w : World) (hr : bmB a b c d e f g h = r) :
    Calls Try.prog 39 #[.agg #[.int .i64 a, .int .i64 b, .int .i64 c, .int .i64 d], .agg #[.int .i64 e, .int .i64 f, .int .i64 g, .int .i64 h]] w fun r' w' => r' = .returned (.bool r) ∧ Bel w w' := by
  subst hr
  by_cases h1 : a ≤ g <;> by_cases h2 : e ≤ c <;> by_cases h3 : b ≤ h <;> by_cases h4 : f ≤ d <;> (
    go_enter Try.func39, Try.ntmps39
    go_wp2
    go_ret
    exact ⟨ret_bl (by unfold bmB; simp [h1, h2, h3, h4]), bel_alloc (bel_alloc (Bel.refl _) _) _⟩)
set_option maxHeartbeats 1000000 in
theorem room_any (d : LblD) (w : World) (hk : lblK d = true) :
    Calls Try.prog 35 #[lbv d] w fun e w' => e = .returned (.agg #[.int .i64 d.x, .int .i64 d.y, .int .i64 (d.x + d.wd - 1), .int .i64 (d.y + d.ht - 1)]) ∧ Bel w w' := by
  obtain ⟨_, ⟨x0, x1, y0, y1⟩, ⟨w0, w1⟩, ⟨t0, t1⟩, _, _⟩ := lblK_out hk
  clear hk
  go_enter Try.func35, Try.ntmps35
  go_wp2
  exact bodyPost_ret (v := .agg #[.int .i64 d.x, .int .i64 d.y, .int .i64 (d.x + d.wd - 1), .int .i64 (d.y + d.ht - 1)]) (by simp [results, Try.results35, go_sem]) rfl ⟨rfl, by with_reducible repeat (first | exact Bel.refl _ | refine Bel.drew ?_ | refine bel_alloc ?_ _)⟩
end Go.Proofs.Ytpbpnkklnbmkeaa

