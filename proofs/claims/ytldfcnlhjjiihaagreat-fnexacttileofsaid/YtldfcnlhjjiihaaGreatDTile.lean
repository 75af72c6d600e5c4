/-
  Contracts of the laws' own functions on Tile data: counted, copied, held against each other.
-/
import Derived.Test.YtldfcnlhjjiihaaGreatGB
import Derived.Test.YtldfcnlhjjiihaaGreatCD
import Derived.Deep.LoopGhost
import Derived.OwnWalk
import Derived.Deep.RegionHeld3
namespace Go.Proofs.YtldfcnlhjjiihaaGreat
open Go.RowKit

theorem toTile_any (x0 : Int) (x1 : Int) (x2 : Int) (w : World) :
  Calls Tryz.prog 7 #[.agg #[.int .i64 x0, .int .i64 x1, .int .i64 x2]] w fun e w' => e = .returned (.agg #[.int .i64 x0, .int .i64 x1, .int .i64 x2]) ∧ Bel w w' := by
 go_enter Tryz.func7, Tryz.ntmps7
 go_wp2
 exact bodyPost_ret (v := .agg #[.int .i64 x0, .int .i64 x1, .int .i64 x2]) (by simp [results, Tryz.results7, go_sem]) rfl ⟨rfl, bel_alloc (bel_alloc (bel_alloc (Bel.refl _) _) _) _⟩

theorem eqTile_same (x0 : Int) (x1 : Int) (x2 : Int) (w : World) :
  Calls Tryz.prog 29 #[.agg #[.int .i64 x0, .int .i64 x1, .int .i64 x2], .agg #[.int .i64 x0, .int .i64 x1, .int .i64 x2]] w fun e w' => e = .returned (.bool true) ∧ Bel w w' := by
 go_enter Tryz.func29, Tryz.ntmps29
 go_wp2
 go_ret
 exact ⟨rfl, bel_alloc (bel_alloc (Bel.refl _) _) _⟩

end Go.Proofs.YtldfcnlhjjiihaaGreat
