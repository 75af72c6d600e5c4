/-
  Contracts of TagsOk, in the program and in its model: for every list of tags.
-/
import Derived.Test.YtfmeooedffcmbaaTagM
namespace Go.Proofs.Ytfmeooedffcmbaa
open Go.RowKit

end Go.Proofs.Ytfmeooedffcmbaa
