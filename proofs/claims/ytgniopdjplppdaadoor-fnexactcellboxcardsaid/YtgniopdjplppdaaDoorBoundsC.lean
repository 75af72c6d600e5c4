/-
  Contracts of Bounds, in the program and in its model: for every row of at most 2 to the 20th points.
-/
import Derived.Test.YtgniopdjplppdaaDoorCrossC
import Derived.Test.YtgniopdjplppdaaDoorPtsC
import Derived.Deep.DeepCutAuto
namespace Go.Proofs.YtgniopdjplppdaaDoor
open Go.RowKit

/-- A block of the call's own with four numbers. -/
structure Four (w : World) (B : Nat) (a b c d : Int) : Prop where
  lt : B < w.heap.size
  c0 : w.cell? ⟨B, 0, none⟩ = some (.int .i64 a)
  c1 : w.cell? ⟨B, 1, none⟩ = some (.int .i64 b)
  c2 : w.cell? ⟨B, 2, none⟩ = some (.int .i64 c)
  c3 : w.cell? ⟨B, 3, none⟩ = some (.int .i64 d)
  fr : ∀ j, w.frozen? ⟨B, j, none⟩ = false
theorem Four.bel {w w' : World} {B : Nat} {a b c d : Int} (h : Four w B a b c d) (hb : Bel w w') : Four w' B a b c d :=
  ⟨bel_lt hb h.lt, bel_cell hb h.lt h.c0, bel_cell hb h.lt h.c1, bel_cell hb h.lt h.c2, bel_cell hb h.lt h.c3, fun j => by rw [hb.out.frozen (p := ⟨B, j, none⟩) h.lt]; exact h.fr j⟩
theorem setc_far {w : World} {B B' i j : Nat} {v : Value} (h : B ≠ B') : (w.setCell ⟨B, i, none⟩ v).cell? ⟨B', j, none⟩ = w.cell? ⟨B', j, none⟩ :=
  World.cell?_setCell_other _ _ _ _ (fun e => h (congrArg Addr.block e))
theorem Four.far {w : World} {B B' i : Nat} {v : Value} {a b c d : Int} (h : Four w B a b c d) (hne : B' ≠ B) : Four (w.setCell ⟨B', i, none⟩ v) B a b c d :=
  ⟨by simpa [World.setCell] using h.lt, by rw [setc_far hne]; exact h.c0, by rw [setc_far hne]; exact h.c1, by rw [setc_far hne]; exact h.c2, by rw [setc_far hne]; exact h.c3, fun j => by rw [World.frozen?_setCell]; exact h.fr j⟩
theorem Four.set0 {w : World} {B : Nat} {a b c d : Int} (h : Four w B a b c d) (x : Int) : Four (w.setCell ⟨B, 0, none⟩ (.int .i64 x)) B x b c d :=
  ⟨by simpa [World.setCell] using h.lt, setc_same h.c0, by rw [setc_other (by decide)]; exact h.c1, by rw [setc_other (by decide)]; exact h.c2, by rw [setc_other (by decide)]; exact h.c3, fun j => by rw [World.frozen?_setCell]; exact h.fr j⟩
theorem Four.set1 {w : World} {B : Nat} {a b c d : Int} (h : Four w B a b c d) (x : Int) : Four (w.setCell ⟨B, 1, none⟩ (.int .i64 x)) B a x c d :=
  ⟨by simpa [World.setCell] using h.lt, by rw [setc_other (by decide)]; exact h.c0, setc_same h.c1, by rw [setc_other (by decide)]; exact h.c2, by rw [setc_other (by decide)]; exact h.c3, fun j => by rw [World.frozen?_setCell]; exact h.fr j⟩
theorem Four.set2 {w : World} {B : Nat} {a b c d : Int} (h : Four w B a b c d) (x : Int) : Four (w.setCell ⟨B, 2, none⟩ (.int .i64 x)) B a b x d :=
  ⟨by simpa [World.setCell] using h.lt, by rw [setc_other (by decide)]; exact h.c0, by rw [setc_other (by decide)]; exact h.c1, setc_same h.c2, by rw [setc_other (by decide)]; exact h.c3, fun j => by rw [World.frozen?_setCell]; exact h.fr j⟩
theorem Four.set3 {w : World} {B : Nat} {a b c d : Int} (h : Four w B a b c d) (x : Int) : Four (w.setCell ⟨B, 3, none⟩ (.int .i64 x)) B a b c x :=
  ⟨by simpa [World.setCell] using h.lt, by rw [setc_other (by decide)]; exact h.c0, by rw [setc_other (by decide)]; exact h.c1, by rw [setc_other (by decide)]; exact h.c2, setc_same h.c3, fun j => by rw [World.frozen?_setCell]; exact h.fr j⟩
theorem Four.new (w : World) (a b c d : Int) (t : TypeId) : Four (w.alloc (.cells #[.int .i64 a, .int .i64 b, .int .i64 c, .int .i64 d] t)) w.heap.size a b c d :=
  ⟨by simp, by simp [go_sem], by simp [go_sem], by simp [go_sem], by simp [go_sem], fun j => by simp⟩

/-- The least and the greatest of the first k + 1. -/
def mn (X : Nat → Int) : Nat → Int
  | 0 => X 0
  | k + 1 => min (mn X k) (X (k + 1))
def mx (X : Nat → Int) : Nat → Int
  | 0 => X 0
  | k + 1 => max (mx X k) (X (k + 1))
theorem mn_pred (X : Nat → Int) (k : Nat) : min (mn X (k - 1)) (X k) = mn X k := by
  cases k with
  | zero => show min (X 0) (X 0) = X 0; omega
  | succ k => rfl
theorem mx_pred (X : Nat → Int) (k : Nat) : max (mx X (k - 1)) (X k) = mx X k := by
  cases k with
  | zero => show max (X 0) (X 0) = X 0; omega
  | succ k => rfl

/-- A box as a value. -/
abbrev bx (a b c d : Int) : Value := .agg #[.int .i64 a, .int .i64 b, .int .i64 c, .int .i64 d]
theorem boxOf_exact (x0 y0 x1 y1 : Int) (w : World) :
    Calls Tryd.prog 48 #[pt x0 y0, pt x1 y1] w fun e w' => e = .returned (bx (min x0 x1) (min y0 y1) (max x0 x1) (max y0 y1)) ∧
      w' = ((w.alloc (.cells #[.int .i64 x0, .int .i64 y0] 26)).alloc (.cells #[.int .i64 x1, .int .i64 y1] 26)).alloc (.cells #[.int .i64 (min x0 x1), .int .i64 (min y0 y1), .int .i64 (max x0 x1), .int .i64 (max y0 y1)] 36) := by
  go_enter Tryd.func48, Tryd.ntmps48
  go_wp2
  exact bodyPost_ret (v := bx (min x0 x1) (min y0 y1) (max x0 x1) (max y0 y1)) (by simp [results, Tryd.results48, go_sem]) rfl ⟨rfl, rfl⟩

end Go.Proofs.YtgniopdjplppdaaDoor
