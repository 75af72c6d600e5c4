/-
  What lies in a box: the question for one point; how a box that is handed in is read and copied.
-/
import Derived.Test.YtkinpfnelmdmlaaDoorMem
import Derived.Test.YtkinpfnelmdmlaaDoorWordC
import Derived.Test.YtkinpfnelmdmlaaDoorOpenD
namespace Go.Proofs.YtkinpfnelmdmlaaDoor
open Go.ChangeShapes Go.WideShapes Go.ChangeAt Go.RowKit Go.Deep Go.Joins

structure BoxD where
  a : Int
  b : Int
  c : Int
  d : Int
def ptB (q : BoxD) (x y : Int) : Bool := decide (q.a ≤ x) && (decide (x ≤ q.c) && (decide (q.b ≤ y) && decide (y ≤ q.d)))
set_option maxHeartbeats 1000000 in
theorem holds_any (q : BoxD) (x y : Int) (w : World) :
    Calls Tryd.prog 22 #[.agg #[.int .i64 q.a, .int .i64 q.b, .int .i64 q.c, .int .i64 q.d], .agg #[.int .i64 x, .int .i64 y]] w fun e w' => e = .returned (.bool (ptB q x y)) ∧ Bel w w' := by
  have hB : Bel w ((w.alloc (.cells #[.int .i64 q.a, .int .i64 q.b, .int .i64 q.c, .int .i64 q.d] 28)).alloc (.cells #[.int .i64 x, .int .i64 y] 26)) := bel_alloc (bel_alloc (Bel.refl _) _) _
  obtain ⟨r, Hr⟩ : ∃ r, Hid (ptB q x y = r) := ⟨_, (rfl : ptB q x y = _)⟩
  rw [Hr.out]
  by_cases h1 : q.a ≤ x <;> by_cases h2 : x ≤ q.c <;> by_cases h3 : q.b ≤ y <;> by_cases h4 : y ≤ q.d <;> (
    have HE : Hid (r = (decide (q.a ≤ x) && (decide (x ≤ q.c) && (decide (q.b ≤ y) && decide (y ≤ q.d))))) := Hr.out.symm
    go_enter Tryd.func22, Tryd.ntmps22
    go_wp2
    go_ret
    exact ⟨ret_bl (by rw [HE.out]; simp [h1, h2, h3, h4]), hB⟩)

end Go.Proofs.YtkinpfnelmdmlaaDoor
