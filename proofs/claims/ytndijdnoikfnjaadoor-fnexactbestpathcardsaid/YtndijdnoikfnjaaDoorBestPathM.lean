/-
  The walk of the law, whole.
-/
import Derived.Test.YtndijdnoikfnjaaDoorBestPathL
import Derived.Test.YtndijdnoikfnjaaDoorMbS
namespace Go.Proofs.YtndijdnoikfnjaaDoor
open Go.RowKit

theorem bakC_b : BakC := l10Back_any
theorem lawFnExactBestPath_any (v : Value) (m : GraphD) (bs : List Nat) (si ti : Int) (w : World) (hT : Winds w) (hV : GphV w v m bs) (hN : GphN m) :
    Calls Tryd.prog 3 #[v, .int .i64 si, .int .i64 ti] w fun e w' => e = .returned (.bool true) ∧ Bel w w' := lawFnExactBestPath_of bakC_b v m bs si ti w hT hV hN
end Go.Proofs.YtndijdnoikfnjaaDoor
