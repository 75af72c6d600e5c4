/-
  Contracts of TagsOk, in the program and in its model: for every list of tags.
-/
import Derived.Test.YtgniopdjplppdaaTagM
namespace Go.Proofs.Ytgniopdjplppdaa
open Go.RowKit

end Go.Proofs.Ytgniopdjplppdaa
