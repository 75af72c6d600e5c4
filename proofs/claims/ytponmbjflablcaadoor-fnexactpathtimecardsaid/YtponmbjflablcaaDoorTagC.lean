/-
  Contracts of TagsOk, in the program and in its model: for every list of tags.
-/
import Derived.Test.YtponmbjflablcaaDoorTagM
namespace Go.Proofs.YtponmbjflablcaaDoor
open Go.RowKit

end Go.Proofs.YtponmbjflablcaaDoor
