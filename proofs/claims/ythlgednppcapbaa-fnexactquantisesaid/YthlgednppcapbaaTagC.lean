/-
  Contracts of TagsOk, in the program and in its model: for every list of tags.
-/
import Derived.Test.YthlgednppcapbaaTagM
namespace Go.Proofs.Ythlgednppcapbaa
open Go.RowKit

end Go.Proofs.Ythlgednppcapbaa
