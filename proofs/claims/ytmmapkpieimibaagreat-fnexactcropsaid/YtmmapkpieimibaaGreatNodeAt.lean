/-
  The place of a node that is there, in the document's model.
-/
import Derived.Test.YtmmapkpieimibaaGreatSpecN
namespace Go.Proofs.YtmmapkpieimibaaGreat
open Go.RowKit Go.Maps
theorem l2Node_at (v : Value) (m : MapD) (bs : List Nat) (x : Int) (j : Nat) (w : World) (hV : MapV w v m bs) (hl : m.nodes.length ≤ 5000) (hA : AscP m.nodes.length (nId m.nodes) (nTg m.nodes)) (hj : posI (nId m.nodes) m.nodes.length x = (j : Int)) :
    Calls Tryz.prog 23 #[v, .int .i64 x] w fun e w' => e = .returned (.int .i64 (j : Int)) ∧ Bel w w' := by
  rw [← hj]
  exact l2Node_any v m bs x w hV hl hA
end Go.Proofs.YtmmapkpieimibaaGreat
