/-
  Contracts of the laws' own functions on Walk data: counted, copied, held against each other.
-/
import Derived.Test.YtonedkibbdbgjaaMem
import Derived.Test.YtonedkibbdbgjaaLinD
import Derived.Deep.LoopGhost
import Derived.OwnWalk
import Derived.Deep.RegionHeld3
namespace Go.Proofs.Ytonedkibbdbgjaa
open Go.RowKit

end Go.Proofs.Ytonedkibbdbgjaa
