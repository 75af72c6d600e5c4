/-
  Contracts of Bounds' model, and of Bounds where there is nothing: for every row of at most 2 to the 20th points.
-/
import Derived.Test.YtgniopdjplppdaaDoorBoundsC
namespace Go.Proofs.YtgniopdjplppdaaDoor
open Go.RowKit

/-- Bounds as both tell them. -/
def bq (n : Nat) (X Y : Nat → Int) : Nat → Int := if rowB n X Y && decide (0 < n) then (fun j => match j with | 0 => mn X (n - 1) | 1 => mn Y (n - 1) | 2 => mx X (n - 1) | _ => mx Y (n - 1)) else fun _ => 0
abbrev bqv (n : Nat) (X Y : Nat → Int) : Value := bx (bq n X Y 0) (bq n X Y 1) (bq n X Y 2) (bq n X Y 3)
theorem bq_yes {n : Nat} {X Y : Nat → Int} (h : rowB n X Y = true) (h0 : 0 < n) : bqv n X Y = bx (mn X (n - 1)) (mn Y (n - 1)) (mx X (n - 1)) (mx Y (n - 1)) := by simp [bqv, bq, h, h0]
theorem bq_no {n : Nat} {X Y : Nat → Int} (h : rowB n X Y = false ∨ n = 0) : bqv n X Y = bx 0 0 0 0 := by rcases h with h | h <;> simp [bqv, bq, h]

theorem eqBox_same (a b c d : Int) (w : World) :
    Calls Tryd.prog 18 #[bx a b c d, bx a b c d] w fun e w' => e = .returned (.bool true) ∧ Bel w w' := by
  go_enter Tryd.func18, Tryd.ntmps18
  go_wp2_with fail
  refine (eqPoint_same _ _ _).mono ?_
  rintro e w1 ⟨rfl, hb1⟩
  obtain ⟨hc1, hf1, hz1⟩ := bcell hb1
  have hy1 : w.heap.size < w1.heap.size := bel_lt hb1 (by simp; omega)
  have hy2 : w.heap.size + 1 < w1.heap.size := bel_lt hb1 (by simp)
  go_wp2_with fail
  refine (eqPoint_same _ _ _).mono ?_
  rintro e w2 ⟨rfl, hb2⟩
  go_wp2
  go_ret
  exact ⟨rfl, bel_step (bel_step (bel_alloc (bel_alloc (Bel.refl _) _) _) hb1) hb2⟩
end Go.Proofs.YtgniopdjplppdaaDoor
