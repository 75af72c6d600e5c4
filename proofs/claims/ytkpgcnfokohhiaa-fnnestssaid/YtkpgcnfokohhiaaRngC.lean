/-
  Contracts of what Inside is made of, in the program and in its model: rings that are rows; on a stretch, to the right of a point.
-/
import Derived.Test.YtkpgcnfokohhiaaRngM
import Derived.Deep.LoopGhost
import Derived.Deep.RegionHeld3
namespace Go.Proofs.Ytkpgcnfokohhiaa
open Go.RowKit

def hldB (a b c d x y : Int) : Bool := decide (a ≤ x) && (decide (x ≤ c) && (decide (b ≤ y) && decide (y ≤ d)))
set_option maxHeartbeats 1000000 in
theorem hold_any (a b c d x y : Int) (w : World) :
    Calls Try.prog 34 #[.agg #[.int .i64 a, .int .i64 b, .int .i64 c, .int .i64 d], pt x y] w fun e w' => e = .returned (.bool (hldB a b c d x y)) ∧ Bel w w' := by
  have hB : Bel w ((w.alloc (.cells #[.int .i64 a, .int .i64 b, .int .i64 c, .int .i64 d] 59)).alloc (.cells #[.int .i64 x, .int .i64 y] 26)) := bel_alloc (bel_alloc (Bel.refl _) _) _
  obtain ⟨r, Hr⟩ : ∃ r, Hid (hldB a b c d x y = r) := ⟨_, (rfl : hldB a b c d x y = _)⟩
  rw [Hr.out]
  by_cases h1 : a ≤ x <;> by_cases h2 : x ≤ c <;> by_cases h3 : b ≤ y <;> by_cases h4 : y ≤ d <;> (
    have HE : Hid (r = (decide (a ≤ x) && (decide (x ≤ c) && (decide (b ≤ y) && decide (y ≤ d))))) := Hr.out.symm
    go_enter Try.func34, Try.ntmps34
    go_wp2
    go_ret
    exact ⟨ret_bool (by rw [HE.out]; simp [h1, h2, h3, h4]), hB⟩)

theorem hld_btw (ax ay bx bY px py : Int) : hldB (min ax bx) (min ay bY) (max ax bx) (max ay bY) px py = (btwB px ax bx && btwB py ay bY) := by
  rw [Bool.eq_iff_iff]
  simp only [hldB, btwB, Bool.and_eq_true, Bool.or_eq_true, decide_eq_true_eq]
  omega
theorem on_hld (ax ay bx bY px py : Int) : onB ax ay bx bY px py = (hldB (min ax bx) (min ay bY) (max ax bx) (max ay bY) px py && decide (sgn (trn ax ay bx bY px py) = 0)) := by
  rw [hld_btw]
  unfold onB
  rw [Bool.and_comm]
  congr 1

theorem turnR (x0 y0 x1 y1 x2 y2 : Int) (w : World) (a : POk x0 y0) (b : POk x1 y1) (c : POk x2 y2) :
    Calls Try.prog 35 #[pt x0 y0, pt x1 y1, pt x2 y2] w fun e w' => e = .returned (.int .i64 (sgn (trn x0 y0 x1 y1 x2 y2))) ∧ Bel w w' := by
  have hd : turnOf x0 y0 x1 y1 x2 y2 = sgn (trn x0 y0 x1 y1 x2 y2) := by simp [turnOf, pOk_iff.2 a, pOk_iff.2 b, pOk_iff.2 c]
  rw [← hd]
  exact turn_any _ _ _ _ _ _ _

theorem rt_up {ax ay bx bY px py : Int} (h : ay ≤ bY) : rtB ax ay bx bY px py = (decide (ay ≤ py) && (decide (py < bY) && decide (0 < sgn (trn ax ay bx bY px py)))) := by
  rw [Bool.eq_iff_iff]
  simp only [rtB, Bool.and_eq_true, Bool.or_eq_true, decide_eq_true_eq, sgn_pos_iff]
  omega
theorem rt_down {ax ay bx bY px py : Int} (h : bY < ay) : rtB ax ay bx bY px py = (decide (bY ≤ py) && (decide (py < ay) && decide (0 < sgn (trn bx bY ax ay px py)))) := by
  rw [Bool.eq_iff_iff, trn_swap]
  simp only [rtB, Bool.and_eq_true, Bool.or_eq_true, decide_eq_true_eq, sgn_pos_iff]
  omega

set_option maxRecDepth 100000 in
set_option maxHeartbeats 4000000 in
theorem liesRight_any (x0 y0 x1 y1 x2 y2 : Int) (w : World) (a : POk x0 y0) (b : POk x1 y1) (c : POk x2 y2) :
    Calls Try.prog 23 #[pt x0 y0, pt x1 y1, pt x2 y2] w fun e w' => e = .returned (.bool (rtB x0 y0 x1 y1 x2 y2)) ∧ Bel w w' := by
  have B3 := bx3_bel 26 w x0 y0 x1 y1 x2 y2
  by_cases hu : y0 ≤ y1
  · rw [rt_up hu]
    obtain ⟨s, Hs⟩ : ∃ s, Hid (sgn (trn x0 y0 x1 y1 x2 y2) = s) := ⟨_, (rfl : sgn (trn x0 y0 x1 y1 x2 y2) = _)⟩
    rw [Hs.out]
    by_cases h1 : y0 ≤ y2
    · by_cases h2 : y2 < y1
      · go_enter Try.func23, Try.ntmps23
        go_wp2_with fail
        refine (turnR _ _ _ _ _ _ _ a b c).mono ?_
        rintro e w1 ⟨rfl, hb1⟩
        rw [Hs.out]
        go_wp2
        go_ret
        exact ⟨ret_bool (by simp [h1, h2]), bel_step B3 hb1⟩
      · go_enter Try.func23, Try.ntmps23
        go_wp2
        go_ret
        exact ⟨ret_bool (by simp; omega), B3⟩
    · go_enter Try.func23, Try.ntmps23
      go_wp2
      go_ret
      exact ⟨ret_bool (by simp; omega), B3⟩
  · have hu : y1 < y0 := by omega
    rw [rt_down hu]
    obtain ⟨s, Hs⟩ : ∃ s, Hid (sgn (trn x1 y1 x0 y0 x2 y2) = s) := ⟨_, (rfl : sgn (trn x1 y1 x0 y0 x2 y2) = _)⟩
    rw [Hs.out]
    have B4 := bx3_bel 26 w x1 y1 x0 y0 x2 y2
    by_cases h1 : y1 ≤ y2
    · by_cases h2 : y2 < y0
      · go_enter Try.func23, Try.ntmps23
        go_wp2_with fail
        refine (turnR _ _ _ _ _ _ _ b a c).mono ?_
        rintro e w1 ⟨rfl, hb1⟩
        rw [Hs.out]
        go_wp2
        go_ret
        exact ⟨ret_bool (by simp [h1, h2]), bel_step B4 hb1⟩
      · go_enter Try.func23, Try.ntmps23
        go_wp2
        go_ret
        exact ⟨ret_bool (by simp; omega), B4⟩
    · go_enter Try.func23, Try.ntmps23
      go_wp2
      go_ret
      exact ⟨ret_bool (by simp; omega), B4⟩

theorem rowOkL_any (a : Option Addr) (n c : Nat) (l : List PtD) (bs : List Nat) (w : World) (hT : PtL w a l bs) (hn : l.length = n) (hm : n ≤ 1048576) :
    Calls Try.prog 32 #[.slice a n c] w fun e w' => e = .returned (.bool (rwB l)) ∧ Bel w w' := by
  subst hn
  exact rowOk_any _ _ _ _ _ _ hT.pts hm
theorem ringsOk1_any (a : Option Addr) (n c : Nat) (i : Bool) (l : List PtD) (bs : List Nat) (w : World) (hT : PtL w a l bs) (hn : l.length = n) (hm : n ≤ 1048576) :
    Calls Try.prog 31 #[.agg #[.slice a n c, .bool i]] w fun e w' => e = .returned (.bool (rwB l)) ∧ Bel w w' := by
  have hB : Bel w (w.alloc (.cells #[.slice a n c, .bool i] 32)) := bel_alloc (Bel.refl _) _
  have hT1 := hT.bel ptE hB
  go_enter Try.func31, Try.ntmps31
  go_wp2_with fail
  refine (rowOkL_any _ _ _ l bs _ hT1 hn hm).mono ?_
  rintro e w1 ⟨rfl, hb1⟩
  go_wp2
  go_ret
  exact ⟨rfl, bel_step hB hb1⟩

set_option maxRecDepth 100000 in
set_option maxHeartbeats 1000000 in
theorem allR_any (a : Option Addr) (n c : Nat) (l : List RingD) (bs : List Nat) (w : World) (hT : RingL w a l bs) (hn : l.length = n) (hm : n ≤ 40) (hs : ∀ i (h : i < l.length), l[i].row.length ≤ 1048576) :
    Calls Try.prog 30 #[.slice a n c, .func (.func 31) #[] #[]] w fun e w' => e = .returned (.bool (rgsB l)) ∧ Bel w w' := by
  have Hn : Hid (l.length = n) := hn
  clear hn
  go_enter Try.func30, Try.ntmps30
  go_wp2
  go_loopw [6, 9] (fun _ i wr => ∃ k : Nat, k ≤ n ∧ i = .int .i64 k ∧ (∀ j (h : j < l.length), j < k → rwB l[j].row = true) ∧ Bel w wr) (fun _ i _ => n - (intOf i).toNat)
  case atStart => exact ⟨0, Nat.zero_le _, rfl, fun j _ hj => absurd hj (Nat.not_lt_zero _), Bel.refl _⟩
  case round =>
    obtain ⟨k, hk, rfl, hall, hbel⟩ := hrel
    have H : Hid (∀ j (h : j < l.length), j < k → rwB l[j].row = true) := hall
    clear hall
    by_cases hlt : k < n
    · have hkl : k < l.length := by rw [Hn.out]; exact hlt
      obtain ⟨b, off, f, rfl, hb, hx⟩ := (hT.bel ringE hbel).out hkl
      obtain ⟨a0, k0, _, c0, c1, t0⟩ := hx k hkl
      have t1 := t0.bel ptE (bel_alloc (Bel.refl wr) (.cells #[.slice a0 l[k].row.length k0, .bool l[k].inner] 32))
      have hl := hs k hkl
      clear hx hT
      cases hf : rwB l[k].row
      · have HF : Hid (false = rgsB l) := (rgsB_at hkl hf).symm
        go_wp2_with fail
        refine (ringsOk1_any _ _ _ _ l[k].row _ _ t1 rfl hl).mono ?_
        rintro e w1 ⟨rfl, hb1⟩
        have hB1 := bel_step (bel_alloc hbel _) hb1
        go_wp2
        go_ret
        exact ⟨ret_bool HF.out, hB1⟩
      · have HA : Hid (rwB l[k].row = true) := hf
        go_wp2_with fail
        refine (ringsOk1_any _ _ _ _ l[k].row _ _ t1 rfl hl).mono ?_
        rintro e w1 ⟨rfl, hb1⟩
        have hB1 := bel_step (bel_alloc hbel _) hb1
        go_wp2
        go_roundw
        case rel => exact ⟨k + 1, by omega, by go_num, fun j h hj => by
                        (by_cases e : j = k)
                        · subst e; exact HA.out
                        · exact H.out j h (by omega), hB1⟩
        case measure => simp [intOf]; omega
    · have HT : Hid (true = rgsB l) := (rgsB_true (by rw [Hn.out]; exact hm) fun j h => H.out j h (by have := Hn.out; omega)).symm
      go_wp2
      go_ret
      exact ⟨ret_bool HT.out, hbel⟩

theorem ringsOk_any (a : Option Addr) (n c : Nat) (l : List RingD) (bs : List Nat) (w : World) (hT : RingL w a l bs) (hn : l.length = n) (hm : n ≤ 1048576) (hs : ∀ i (h : i < l.length), l[i].row.length ≤ 1048576) :
    Calls Try.prog 21 #[.slice a n c] w fun e w' => e = .returned (.bool (rgsB l)) ∧ Bel w w' := by
  by_cases hbig : 40 < n
  · rw [rgsB_big (by rw [hn]; exact hbig)]
    go_enter Try.func21, Try.ntmps21
    go_wp2
    go_ret
    exact ⟨rfl, Bel.refl _⟩
  · have hbig : n ≤ 40 := by omega
    go_enter Try.func21, Try.ntmps21
    go_wp2_with fail
    refine (allR_any _ _ _ l bs _ hT hn hbig hs).mono ?_
    rintro e w1 ⟨rfl, hb1⟩
    go_wp2
    go_ret
    exact ⟨rfl, hb1⟩

end Go.Proofs.Ytkpgcnfokohhiaa
