/-
  Contracts of the laws' own functions on Tag data: counted, copied, held against each other.
-/
import Derived.Test.YtapipkcdnmehlaaMem
import Derived.Deep.LoopGhost
import Derived.OwnWalk
import Derived.Deep.RegionHeld3
namespace Go.Proofs.Ytapipkcdnmehlaa
open Go.RowKit

end Go.Proofs.Ytapipkcdnmehlaa
