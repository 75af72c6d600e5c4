/-
  How a law marks a row of points and looks whether the marks were held: contracts. And Simplify in the model, with its guards.
-/
import Derived.Test.YtkknbapcbcialaaSimpT
namespace Go.Proofs.Ytkknbapcbcialaa
open Go.RowKit

/-- The first k points of the block are marked. -/
def Mk (w : World) (B k : Nat) : Prop := ∀ i, i < k → w.cell? ⟨B, i * 2, none⟩ = some (.int .i64 (1 + 2 * (i : Int))) ∧ w.cell? ⟨B, i * 2 + 1, none⟩ = some (.int .i64 (1 + 2 * (i : Int) + 1))
theorem Mk.bel {w w' : World} {B k : Nat} (h : Mk w B k) (hB : B < w.heap.size) (hb : Bel w w') : Mk w' B k := fun i hi => ⟨bel_cell hb hB (h i hi).1, bel_cell hb hB (h i hi).2⟩
theorem Mk.put {w : World} {B k : Nat} (h : Mk w B k) {m : Nat} (r : Room w B m) (hk : k * 2 + 1 < m) :
    Mk ((w.setCell ⟨B, k * 2, none⟩ (.int .i64 (1 + 2 * (k : Int)))).setCell ⟨B, k * 2 + 1, none⟩ (.int .i64 (1 + 2 * (k : Int) + 1))) B (k + 1) := by
  intro i hi
  obtain ⟨z0, e0⟩ := r.there (k * 2) (by omega)
  obtain ⟨z1, e1⟩ := (r.set (k * 2) (1 + 2 * (k : Int))).there (k * 2 + 1) hk
  by_cases e : i = k
  · subst e
    exact ⟨by rw [setc_other (by omega), setc_same e0], setc_same e1⟩
  · have hi' : i < k := by omega
    refine ⟨?_, ?_⟩
    · rw [setc_other (by omega), setc_other (by omega)]; exact (h i hi').1
    · rw [setc_other (by omega), setc_other (by omega)]; exact (h i hi').2

end Go.Proofs.Ytkknbapcbcialaa
