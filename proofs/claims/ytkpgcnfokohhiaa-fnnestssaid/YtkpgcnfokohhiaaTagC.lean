/-
  Contracts of TagsOk, in the program and in its model: for every list of tags.
-/
import Derived.Test.YtkpgcnfokohhiaaTagM
namespace Go.Proofs.Ytkpgcnfokohhiaa
open Go.RowKit

end Go.Proofs.Ytkpgcnfokohhiaa
