/-
  The points of a row at an X: the law's own question.
-/
import Derived.Test.YtkmccjjghpnejaaCD
import Derived.Test.YtkmccjjghpnejaaCH
import Derived.Laws.OwnMore
import Derived.Deep.AppendLies
namespace Go.Proofs.Ytkmccjjghpnejaa
open Go.RowKit Go.Maps

def atP (e : Int) (d : PtD) : Bool := decide (d.x = e)
def atQ (e : Int) (l : List PtD) : List PtD := l.filter (atP e)
theorem atQ_yes {e : Int} {l : List PtD} {k : Nat} (h : k < l.length) (hx : l[k].x = e) : atQ e (l.take (k + 1)) = atQ e (l.take k) ++ [l[k]] := by
 unfold atQ; rw [List.take_succ_eq_append_getElem h, List.filter_append]; simp [atP, hx]
theorem atQ_no {e : Int} {l : List PtD} {k : Nat} (h : k < l.length) (hx : ¬ l[k].x = e) : atQ e (l.take (k + 1)) = atQ e (l.take k) := by
 unfold atQ; rw [List.take_succ_eq_append_getElem h, List.filter_append]; simp [atP, hx]
theorem atQ_len (e : Int) (l : List PtD) : (atQ e l).length ≤ l.length := by unfold atQ; exact List.length_filter_le _ _

end Go.Proofs.Ytkmccjjghpnejaa
