/-
  A list of numbers, its marks held: the contract.
-/
import Derived.Test.YtiagdabikbjbiaaMarkT
namespace Go.Proofs.Ytiagdabikbjbiaa
open Go.RowKit Go.Maps

end Go.Proofs.Ytiagdabikbjbiaa
