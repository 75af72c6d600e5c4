/-
  The walk of the law, whole.
-/
import Derived.Test.YtakedciemnkfhaaGreatDoorDailyL
import Derived.Test.YtakedciemnkfhaaGreatDoorSbpS
import Derived.Test.YtakedciemnkfhaaGreatDoorMbS
namespace Go.Proofs.YtakedciemnkfhaaGreatDoor
open Go.RowKit

theorem sbC_b : SbC := fun v g bs si ti w h1 h2 => specBestPath_of l10Back_any v g bs si ti w h1 h2
theorem lawFnExactDaily_any (v : Value) (m : GraphD) (bs : List Nat) (ar : Option Addr) (cr : Nat) (l : List Int) (br : List Nat) (si ti st : Int) (w : World) (hT : Winds w) (hV : GphV w v m bs) (hN : GphN m) (hI : Ints w ar l br) (him : l.length ≤ maxLen) :
  Calls Tryz.prog 3 #[v, .slice ar l.length cr, .int .i64 si, .int .i64 ti, .int .i64 st] w fun e w' => e = .returned (.bool true) ∧ Bel w w' := lawFnExactDaily_of sbC_b v m bs ar cr l br si ti st w hT hV hN hI him
end Go.Proofs.YtakedciemnkfhaaGreatDoor
