/-
  Contracts of TagsOk, in the program and in its model: for every list of tags.
-/
import Derived.Test.YtapipkcdnmehlaaTagM
namespace Go.Proofs.Ytapipkcdnmehlaa
open Go.RowKit

end Go.Proofs.Ytapipkcdnmehlaa
