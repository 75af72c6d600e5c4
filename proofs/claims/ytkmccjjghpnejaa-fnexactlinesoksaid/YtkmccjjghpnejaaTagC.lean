/-
  Contracts of TagsOk, in the program and in its model: for every list of tags.
-/
import Derived.Test.YtkmccjjghpnejaaTagM
namespace Go.Proofs.Ytkmccjjghpnejaa
open Go.RowKit

end Go.Proofs.Ytkmccjjghpnejaa
