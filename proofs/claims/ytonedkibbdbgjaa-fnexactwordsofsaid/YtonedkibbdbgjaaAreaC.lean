/-
  Contract of what is asked of an area: for every area.
-/
import Derived.Test.YtonedkibbdbgjaaAllC
import Derived.Test.YtonedkibbdbgjaaGrowC
namespace Go.Proofs.Ytonedkibbdbgjaa
open Go.RowKit Go.Maps

theorem areaP_few {n : Nat} {I : Nat → Int} {ps : List PartD} (h : ¬ (1 ≤ ps.length ∧ ps.length ≤ 30)) : bP (AreaP n I ps) = false := bP_false fun hh => h ⟨hh.1, hh.2.1⟩
theorem areaP_no {n : Nat} {I : Nat → Int} {ps : List PartD} {k : Nat} (hk : k < ps.length) (h : ¬ HasI n I ps[k].way) : bP (AreaP n I ps) = false := bP_false fun hh => h (hh.2.2 k hk).1
/-- The ways of the first k parts. -/
def waysTo (ps : List PartD) (k : Nat) (y : Int) : Prop := ∃ j, ∃ h : j < ps.length, j < k ∧ ps[j].way = y
theorem areaP_two {n : Nat} {I : Nat → Int} {ps : List PartD} {k : Nat} (hk : k < ps.length) (h : waysTo ps k ps[k].way) : bP (AreaP n I ps) = false :=
  bP_false fun hh => by
    obtain ⟨j, hj, hjk, e⟩ := h
    exact (hh.2.2 k hk).2 j hjk e
theorem ints_one (w : World) (x : Int) (hx : In64 x) (t : TypeId) : Ints (w.alloc (.cells #[.int .i64 x] t)) (some ⟨w.heap.size, 0, none⟩) [x] [w.heap.size] :=
  .inr ⟨w.heap.size, 0, fun _ => [], rfl, by simp, by simp, fun i hi => by
    obtain rfl : i = 0 := by simp at hi; omega
    exact ⟨rfl, hx, by simp [go_sem]⟩⟩

end Go.Proofs.Ytonedkibbdbgjaa
