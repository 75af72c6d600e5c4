/-
  A list of numbers, its marks held: the contract.
-/
import Derived.Test.YtbfaofgdnobheaaMarkT
namespace Go.Proofs.Ytbfaofgdnobheaa
open Go.RowKit Go.Maps

end Go.Proofs.Ytbfaofgdnobheaa
