/-
  Which labels are chosen, and what they weigh: contracts, of the program and of its model.
-/
import Derived.Test.YtfmeooedffcmbaaLblK
import Derived.Test.YtfmeooedffcmbaaRowH
import Derived.Test.YtfmeooedffcmbaaHasC
import Derived.Laws.AppendOwnNone
import Derived.Deep.AppendLies
namespace Go.Proofs.Ytfmeooedffcmbaa
open Go.RowKit Go.Maps

end Go.Proofs.Ytfmeooedffcmbaa
