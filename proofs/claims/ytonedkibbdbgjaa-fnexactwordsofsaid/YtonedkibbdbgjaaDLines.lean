/-
  Contracts of the laws' own functions on Lines data: counted, copied, held against each other.
-/
import Derived.Test.YtonedkibbdbgjaaMem
import Derived.Test.YtonedkibbdbgjaaDString
import Derived.Test.YtonedkibbdbgjaaDTrip
import Derived.Test.YtonedkibbdbgjaaDWalk
import Derived.Deep.LoopGhost
import Derived.OwnWalk
import Derived.Deep.RegionHeld3
namespace Go.Proofs.Ytonedkibbdbgjaa
open Go.RowKit

end Go.Proofs.Ytonedkibbdbgjaa
