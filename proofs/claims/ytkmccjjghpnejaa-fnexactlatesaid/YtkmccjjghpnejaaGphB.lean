/-
  The small questions about a graph: an Id, a number of a list, two bans: contracts in the program.
-/
import Derived.Test.YtkmccjjghpnejaaGphM
import Derived.Test.YtkmccjjghpnejaaCmpO
namespace Go.Proofs.Ytkmccjjghpnejaa
open Go.RowKit Go.Maps

theorem pointG_r (x y : Int) (r : Bool) (w : World) (h : pok x y = r) :
  Calls Try.prog 39 #[pt x y] w fun e w' => e = .returned (.bool r) ∧ Bel w w' := by
 subst h; exact pointOk_any x y w
theorem specPointG_r (x y : Int) (r : Bool) (w : World) (h : pok x y = r) :
  Calls Try.prog 90 #[pt x y] w fun e w' => e = .returned (.bool r) ∧ Bel w w' := by
 subst h; exact specPointOk_any x y w
/-- Two bans, held against each other. -/
def bnz (a b : BanD) : Int := orz (cpz a.fr b.fr) (cpz a.to b.to)
theorem bnz_lt {a b : BanD} : bnz a b < 0 ↔ banLt a b := by
 unfold bnz orz cpz banLt
 by_cases h1 : a.fr < b.fr
 ·simp [h1]
 ·by_cases h2 : b.fr < a.fr
  ·simp [h1, h2]; omega
  ·have : a.fr = b.fr := by omega
   by_cases h3 : a.to < b.to
   ·simp [h3, this]
   ·by_cases h4 : b.to < a.to <;> simp [h3, h4, this]
end Go.Proofs.Ytkmccjjghpnejaa
