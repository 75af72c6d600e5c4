/-
  The walk of the law, whole.
-/
import Derived.Test.YtdjofkgmpbiofaaDoorFirstRoadsL
import Derived.Test.YtdjofkgmpbiofaaDoorMbS
namespace Go.Proofs.YtdjofkgmpbiofaaDoor
open Go.RowKit

theorem bakC : BakC := l10Back_any
theorem lawFnExactFirstRoads_any (v : Value) (m : GraphD) (bs : List Nat) (x : Int) (w : World) (hT : Winds w) (hV : GphV w v m bs) (hN : GphN m) :
    Calls Tryd.prog 4 #[v, .int .i64 x] w fun e w' => e = .returned (.bool true) ∧ Bel w w' := lawFnExactFirstRoads_of bakC v m bs x w hT hV hN
end Go.Proofs.YtdjofkgmpbiofaaDoor
