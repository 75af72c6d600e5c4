/-
  How a row of points that is handed in is read: the slice's value, and what its cells hold.
-/
import Derived.Test.YtkknbapcbcialaaPtsC
namespace Go.Proofs.Ytkknbapcbcialaa
open Go.ChangeShapes Go.WideShapes Go.ChangeAt Go.RowKit Go.Deep

end Go.Proofs.Ytkknbapcbcialaa
