/-
  The walk of the law, whole.
-/
import Derived.Test.YtndijdnoikfnjaaDoorFirstRoadsL
import Derived.Test.YtndijdnoikfnjaaDoorMbS
namespace Go.Proofs.YtndijdnoikfnjaaDoor
open Go.RowKit

theorem bakC : BakC := l10Back_any
theorem lawFnExactFirstRoads_any (v : Value) (m : GraphD) (bs : List Nat) (x : Int) (w : World) (hT : Winds w) (hV : GphV w v m bs) (hN : GphN m) :
    Calls Tryd.prog 5 #[v, .int .i64 x] w fun e w' => e = .returned (.bool true) ∧ Bel w w' := lawFnExactFirstRoads_of bakC v m bs x w hT hV hN
end Go.Proofs.YtndijdnoikfnjaaDoor
