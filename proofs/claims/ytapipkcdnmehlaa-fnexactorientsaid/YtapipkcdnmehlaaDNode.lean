/-
  Contracts of the laws' own functions on Node data: counted, copied, held against each other.
-/
import Derived.Test.YtapipkcdnmehlaaMem
import Derived.Test.YtapipkcdnmehlaaDTag
import Derived.Deep.LoopGhost
import Derived.OwnWalk
import Derived.Deep.RegionHeld3
namespace Go.Proofs.Ytapipkcdnmehlaa
open Go.RowKit

theorem eqPt_same (x y : Int) (w : World) :
    Calls Try.prog 30 #[pt x y, pt x y] w fun e w' => e = .returned (.bool true) ∧ Bel w w' := by
  go_enter Try.func30, Try.ntmps30
  go_wp2
  go_ret
  exact ⟨rfl, bel_alloc (bel_alloc (Bel.refl _) _) _⟩

end Go.Proofs.Ytapipkcdnmehlaa
