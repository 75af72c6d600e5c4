/-
  DERIVED. GIVEN WITH THE SEED: THE CARDS: each row of YtdjofkgmpbiofaaDoorRows.lean that lists a variable, with what it lists TIED to the program's text (the seventh form; the later family's looks); each row that meets fmt, with fmt's text TOLD by the authors' own Lean function (tested against real Go, not proved from fmt's source: count such statements apart). THE CARD IS WHAT COUNTS. Prove the row's statement (the work); the ties are given (YtdjofkgmpbiofaaDoorTie.lean); close each card by the builder's one call (the guide's Derived/Test/ToyasCard.lean, 'card_holds'). Laid BY PROGRAM, IN A SANDBOX (cutbox-door.mjs). By AI agents, Wed Nov 11 2026. No macro, syntax, notation, axiom, sorry.
-/
import Derived.Test.YtdjofkgmpbiofaaDoorRows
import GoSem.ClaimSeven
namespace Go.Proofs.YtdjofkgmpbiofaaDoor
namespace Rows

/-- THE TIED CARD OF 'laws.FnExactReach'. -/
def fnExactReachCard : Claim7 := { stood := { row := fnExactReachRow, standIns := [], harness := (true, "cd22d108affb41e775d79eb022805d667f9f21604d6de62f84e968c8e160363f"), looks := false }, kinds := [], alts := [], laidByText := true, laidKinds := [.data], laidTests := true, laidLooks := .later }
def FnExactReachCardSaid : Prop := Claim7.holds Tryd.pinned (.plain (OpenSpec.ofChange fnExactReachSpec)) fnExactReachCard

/-- THE TIED CARD OF 'laws.FnExactFirstRoads'. -/
def fnExactFirstRoadsCard : Claim7 := { stood := { row := fnExactFirstRoadsRow, standIns := [], harness := (true, "cd22d108affb41e775d79eb022805d667f9f21604d6de62f84e968c8e160363f"), looks := false }, kinds := [], alts := [], laidByText := true, laidKinds := [.data], laidTests := true, laidLooks := .later }
def FnExactFirstRoadsCardSaid : Prop := Claim7.holds Tryd.pinned (.plain (OpenSpec.ofChange fnExactFirstRoadsSpec)) fnExactFirstRoadsCard

/-- THE SECOND FORM's CARD OF 'laws.FnExactReach'. -/
def fnExactReachUptoCard : Claim7 := { stood := { row := fnExactReachUptoRow, standIns := [], harness := (true, "cd22d108affb41e775d79eb022805d667f9f21604d6de62f84e968c8e160363f"), looks := false }, kinds := [], alts := [], laidByText := true, laidKinds := [.data], laidTests := true, laidLooks := .later }
def FnExactReachUptoCardSaid : Prop := Claim7.holds Tryd.pinned (.plain (OpenSpec.upto fnExactReachSpec)) fnExactReachUptoCard

/-- THE SECOND FORM's CARD OF 'laws.FnExactFirstRoads'. -/
def fnExactFirstRoadsUptoCard : Claim7 := { stood := { row := fnExactFirstRoadsUptoRow, standIns := [], harness := (true, "cd22d108affb41e775d79eb022805d667f9f21604d6de62f84e968c8e160363f"), looks := false }, kinds := [], alts := [], laidByText := true, laidKinds := [.data], laidTests := true, laidLooks := .later }
def FnExactFirstRoadsUptoCardSaid : Prop := Claim7.holds Tryd.pinned (.plain (OpenSpec.upto fnExactFirstRoadsSpec)) fnExactFirstRoadsUptoCard
end Rows
end Go.Proofs.YtdjofkgmpbiofaaDoor
