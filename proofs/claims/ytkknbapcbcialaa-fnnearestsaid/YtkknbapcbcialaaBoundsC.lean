/-
  Contracts of Bounds, in the program and in its model: for every row of at most 2 to the 20th points.
-/
import Derived.Test.YtkknbapcbcialaaCrossC
import Derived.Test.YtkknbapcbcialaaPtsC
import Derived.Deep.DeepCutAuto
namespace Go.Proofs.Ytkknbapcbcialaa
open Go.RowKit

/-- A block of the call's own with four numbers. -/
structure Four (w : World) (B : Nat) (a b c d : Int) : Prop where
  lt : B < w.heap.size
  c0 : w.cell? ⟨B, 0, none⟩ = some (.int .i64 a)
  c1 : w.cell? ⟨B, 1, none⟩ = some (.int .i64 b)
  c2 : w.cell? ⟨B, 2, none⟩ = some (.int .i64 c)
  c3 : w.cell? ⟨B, 3, none⟩ = some (.int .i64 d)
  fr : ∀ j, w.frozen? ⟨B, j, none⟩ = false
theorem Four.bel {w w' : World} {B : Nat} {a b c d : Int} (h : Four w B a b c d) (hb : Bel w w') : Four w' B a b c d :=
  ⟨bel_lt hb h.lt, bel_cell hb h.lt h.c0, bel_cell hb h.lt h.c1, bel_cell hb h.lt h.c2, bel_cell hb h.lt h.c3, fun j => by rw [hb.out.frozen (p := ⟨B, j, none⟩) h.lt]; exact h.fr j⟩
theorem setc_far {w : World} {B B' i j : Nat} {v : Value} (h : B ≠ B') : (w.setCell ⟨B, i, none⟩ v).cell? ⟨B', j, none⟩ = w.cell? ⟨B', j, none⟩ :=
  World.cell?_setCell_other _ _ _ _ (fun e => h (congrArg Addr.block e))
theorem Four.far {w : World} {B B' i : Nat} {v : Value} {a b c d : Int} (h : Four w B a b c d) (hne : B' ≠ B) : Four (w.setCell ⟨B', i, none⟩ v) B a b c d :=
  ⟨by simpa [World.setCell] using h.lt, by rw [setc_far hne]; exact h.c0, by rw [setc_far hne]; exact h.c1, by rw [setc_far hne]; exact h.c2, by rw [setc_far hne]; exact h.c3, fun j => by rw [World.frozen?_setCell]; exact h.fr j⟩
theorem Four.set0 {w : World} {B : Nat} {a b c d : Int} (h : Four w B a b c d) (x : Int) : Four (w.setCell ⟨B, 0, none⟩ (.int .i64 x)) B x b c d :=
  ⟨by simpa [World.setCell] using h.lt, setc_same h.c0, by rw [setc_other (by decide)]; exact h.c1, by rw [setc_other (by decide)]; exact h.c2, by rw [setc_other (by decide)]; exact h.c3, fun j => by rw [World.frozen?_setCell]; exact h.fr j⟩
theorem Four.set1 {w : World} {B : Nat} {a b c d : Int} (h : Four w B a b c d) (x : Int) : Four (w.setCell ⟨B, 1, none⟩ (.int .i64 x)) B a x c d :=
  ⟨by simpa [World.setCell] using h.lt, by rw [setc_other (by decide)]; exact h.c0, setc_same h.c1, by rw [setc_other (by decide)]; exact h.c2, by rw [setc_other (by decide)]; exact h.c3, fun j => by rw [World.frozen?_setCell]; exact h.fr j⟩
theorem Four.set2 {w : World} {B : Nat} {a b c d : Int} (h : Four w B a b c d) (x : Int) : Four (w.setCell ⟨B, 2, none⟩ (.int .i64 x)) B a b x d :=
  ⟨by simpa [World.setCell] using h.lt, by rw [setc_other (by decide)]; exact h.c0, by rw [setc_other (by decide)]; exact h.c1, setc_same h.c2, by rw [setc_other (by decide)]; exact h.c3, fun j => by rw [World.frozen?_setCell]; exact h.fr j⟩
theorem Four.set3 {w : World} {B : Nat} {a b c d : Int} (h : Four w B a b c d) (x : Int) : Four (w.setCell ⟨B, 3, none⟩ (.int .i64 x)) B a b c x :=
  ⟨by simpa [World.setCell] using h.lt, by rw [setc_other (by decide)]; exact h.c0, by rw [setc_other (by decide)]; exact h.c1, by rw [setc_other (by decide)]; exact h.c2, setc_same h.c3, fun j => by rw [World.frozen?_setCell]; exact h.fr j⟩
theorem Four.new (w : World) (a b c d : Int) (t : TypeId) : Four (w.alloc (.cells #[.int .i64 a, .int .i64 b, .int .i64 c, .int .i64 d] t)) w.heap.size a b c d :=
  ⟨by simp, by simp [go_sem], by simp [go_sem], by simp [go_sem], by simp [go_sem], fun j => by simp⟩

/-- The least and the greatest of the first k + 1. -/
def mn (X : Nat → Int) : Nat → Int
  | 0 => X 0
  | k + 1 => min (mn X k) (X (k + 1))
def mx (X : Nat → Int) : Nat → Int
  | 0 => X 0
  | k + 1 => max (mx X k) (X (k + 1))
theorem mn_pred (X : Nat → Int) (k : Nat) : min (mn X (k - 1)) (X k) = mn X k := by
  cases k with
  | zero => show min (X 0) (X 0) = X 0; omega
  | succ k => rfl
theorem mx_pred (X : Nat → Int) (k : Nat) : max (mx X (k - 1)) (X k) = mx X k := by
  cases k with
  | zero => show max (X 0) (X 0) = X 0; omega
  | succ k => rfl

/-- A box as a value. -/
abbrev bx (a b c d : Int) : Value := .agg #[.int .i64 a, .int .i64 b, .int .i64 c, .int .i64 d]
theorem boxOf_exact (x0 y0 x1 y1 : Int) (w : World) :
    Calls Try.prog 52 #[pt x0 y0, pt x1 y1] w fun e w' => e = .returned (bx (min x0 x1) (min y0 y1) (max x0 x1) (max y0 y1)) ∧
      w' = ((w.alloc (.cells #[.int .i64 x0, .int .i64 y0] 29)).alloc (.cells #[.int .i64 x1, .int .i64 y1] 29)).alloc (.cells #[.int .i64 (min x0 x1), .int .i64 (min y0 y1), .int .i64 (max x0 x1), .int .i64 (max y0 y1)] 35) := by
  go_enter Try.func52, Try.ntmps52
  go_wp2
  exact bodyPost_ret (v := bx (min x0 x1) (min y0 y1) (max x0 x1) (max y0 y1)) (by simp [results, Try.results52, go_sem]) rfl ⟨rfl, rfl⟩

set_option maxHeartbeats 2000000 in
theorem bounds_ok (a : Option Addr) (n c : Nat) (X Y : Nat → Int) (w : World) (hP : Pts w a n X Y) (hn : n ≤ 1048576) (hr : rowB n X Y = true) (hn0 : 0 < n) :
    Calls Try.prog 22 #[.slice a n c] w fun e w' => e = .returned (bx (mn X (n - 1)) (mn Y (n - 1)) (mx X (n - 1)) (mx Y (n - 1))) ∧ Bel w w' := by
  have hne : ((n : Int) == 0) = false := by simp; omega
  rcases hP with h | ⟨b, off, rfl, h2, h3⟩
  · omega
  have hP : Pts w (some ⟨b, off, none⟩) n X Y := .inr ⟨b, off, rfl, h2, h3⟩
  go_enter Try.func22, Try.ntmps22
  go_wp2_with fail
  refine (rowOk_any _ _ _ _ _ _ (hP.bel (bel_alloc (Bel.refl _) _)) hn).mono ?_
  rintro e w1 ⟨rfl, hb1⟩
  have R1 : Four w1 w.heap.size 0 0 0 0 := (Four.new w 0 0 0 0 35).bel hb1
  have B1 : Bel w w1 := bel_step (bel_alloc (Bel.refl _) _) hb1
  obtain ⟨d0, d1⟩ := h3 0 hn0
  have e0 := bel_cell B1 h2 d0
  have e1 := bel_cell B1 h2 d1
  have l1 := bel_lt B1 h2
  simp only [Nat.zero_mul, Nat.add_zero] at e0 e1
  have hR : ∀ w', Bel w1 w' → w'.cell? ⟨b, off, none⟩ = some (.int .i64 (X 0)) ∧ w'.cell? ⟨b, off + 1, none⟩ = some (.int .i64 (Y 0)) := fun w' h => ⟨bel_cell h l1 e0, bel_cell h l1 e1⟩
  have g0 : Bel w1 w1 := Bel.refl _
  have hn0' : (0 : Int) < (n : Int) := by omega
  have HP : Hid (Pts w (some ⟨b, off, none⟩) n X Y) := hP
  clear hP h3 d0 d1 e0 e1 hb1 h2 l1
  go_wp2
  go_cut [3] (fun t wc => ∃ B, t = .pointer (some ⟨B, 0, none⟩) ∧ w1.heap.size ≤ B ∧ Four wc B (X 0) (Y 0) (X 0) (Y 0) ∧ Bel w1 wc)
  case first =>
    go_region_held3 (fun w' => Bel w1 w') (repeat (first | exact g0 | refine Bel.drew ?_ | refine bel_alloc ?_ _ | assumption))
      (first
        | (go_at_call 52; refine (boxOf_exact _ _ _ _ _).mono ?_; rintro e w' ⟨rfl, rfl⟩))
    all_goals
      go_wp2_with fail
      go_meet
      case rel =>
        refine ⟨_, rfl, ?_, ⟨?_, ?_, ?_, ?_, ?_, ?_⟩, by assumption⟩
        all_goals first | omega | (simp [go_sem]; done) | (simp [go_sem]; omega)
  case rest =>
    obtain ⟨B, rfl, hBw, hF, hBc⟩ := hcut
    have hRB : w.heap.size ≠ B := by have := R1.lt; omega
    have hwB : w.heap.size ≤ B := Nat.le_trans B1.out.size hBw
    have hR0 := R1.bel hBc
    have hB0 := bel_step B1 hBc
    clear R1 hR hBc g0
    go_wp2
    go_loopw [24] (fun i wr => ∃ k : Nat, k ≤ n ∧ i = .int .i64 k ∧ Four wr B (mn X (k - 1)) (mn Y (k - 1)) (mx X (k - 1)) (mx Y (k - 1)) ∧ Four wr w.heap.size 0 0 0 0 ∧ Bel w wr) (fun i _ => n - (intOf i).toNat)
    case atStart => exact ⟨0, Nat.zero_le _, rfl, hF, hR0, hB0⟩
    case round =>
      clear hF hR0 hB0
      obtain ⟨k, hk, rfl, hF, hR0, hB0⟩ := hrel
      by_cases hlt : k < n
      · rcases HP.out.bel hB0 with h | ⟨b', off', e, h2, h3⟩
        · omega
        · cases e
          obtain ⟨cx, cy⟩ := h3 k hlt
          obtain ⟨fl, f0, f1, f2, f3, ff⟩ := hF
          have HF : Hid (Four wr B (mn X (k - 1)) (mn Y (k - 1)) (mx X (k - 1)) (mx Y (k - 1))) := ⟨fl, f0, f1, f2, f3, ff⟩
          have HR : Hid (Four wr w.heap.size 0 0 0 0) := hR0
          have q0 := ff 0
          have q1 := ff 1
          have q2 := ff 2
          have q3 := ff 3
          clear h3 hR0 ff
          go_wp2
          go_roundw
          case rel =>
            refine ⟨k + 1, by omega, by go_num, ?_, ?_, ?_⟩
            · have hh := ((((HF.out.set0 (mn X k)).set1 (mn Y k)).set2 (mx X k)).set3 (mx Y k)).bel (bel_alloc (Bel.refl _) (.cells #[.int .i64 (X k), .int .i64 (Y k)] 29))
              simp only [mn_pred, mx_pred]
              exact hh
            · exact ((((HR.out.far hRB.symm).far hRB.symm).far hRB.symm).far hRB.symm).bel (bel_alloc (Bel.refl _) _)
            · exact bel_alloc (bel_set (bel_set (bel_set (bel_set hB0 hwB _) hwB _) hwB _) hwB _) _
          case measure => simp [intOf]; omega
      · obtain rfl : k = n := by omega
        obtain ⟨fl, f0, f1, f2, f3, ff⟩ := hF
        have HX : Hid (Four _ w.heap.size (mn X (k - 1)) (mn Y (k - 1)) (mx X (k - 1)) (mx Y (k - 1))) := (((hR0.set0 (mn X (k - 1))).set1 (mn Y (k - 1))).set2 (mx X (k - 1))).set3 (mx Y (k - 1))
        obtain ⟨rl, z0, z1, z2, z3, rf⟩ := hR0
        have q0 := rf 0
        have q1 := rf 1
        have q2 := rf 2
        have q3 := rf 3
        clear ff rf
        go_wp2
        obtain ⟨_, y0, y1, y2, y3, _⟩ := HX.out
        exact bodyPost_ret (v := bx (mn X (k - 1)) (mn Y (k - 1)) (mx X (k - 1)) (mx Y (k - 1))) (by simp [results, Try.results22, go_sem, y0, y1, y2, y3]) rfl
          ⟨rfl, bel_set (bel_set (bel_set (bel_set hB0 (Nat.le_refl _) _) (Nat.le_refl _) _) (Nat.le_refl _) _) (Nat.le_refl _) _⟩
end Go.Proofs.Ytkknbapcbcialaa
