/-
  Rows of points: held against each other, marked, the marks held: contracts.
-/
import Derived.Test.YtkmccjjghpnejaaMarkD
import Derived.Test.YtkmccjjghpnejaaCE
namespace Go.Proofs.Ytkmccjjghpnejaa
open Go.RowKit Go.Maps

def mkPoint (k : Nat) : PtD := ⟨(k : Int), (k : Int) + 1⟩
def mkPoints (k : Nat) (l : List PtD) : List PtD := (List.range l.length).map fun i => mkPoint (k + 2 * i)
theorem mkPoints_len (k : Nat) (l : List PtD) : (mkPoints k l).length = l.length := by simp [mkPoints]

end Go.Proofs.Ytkmccjjghpnejaa
