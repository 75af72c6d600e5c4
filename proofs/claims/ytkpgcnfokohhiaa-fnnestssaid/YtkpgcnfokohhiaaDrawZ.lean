/-
  What the model draws for Simplify: any row of points, and a number.
-/
import Derived.Test.YtkpgcnfokohhiaaDrawY
namespace Go.Proofs.Ytkpgcnfokohhiaa
open Go.RowKit

end Go.Proofs.Ytkpgcnfokohhiaa
