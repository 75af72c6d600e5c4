/-
  DERIVED. GIVEN WITH THE SEED: THE CARDS: each row of YtakedciemnkfhaaGreatDoorRows.lean that lists a variable, with what it lists TIED to the program's text (the seventh form; the later family's looks); each row that meets fmt, with fmt's text TOLD by the authors' own Lean function (tested against real Go, not proved from fmt's source: count such statements apart). THE CARD IS WHAT COUNTS. Prove the row's statement (the work); the ties are given (YtakedciemnkfhaaGreatDoorTie.lean); close each card by the builder's one call (the guide's Derived/Test/ToyasCard.lean, 'card_holds'). Laid BY PROGRAM, IN A SANDBOX (cutbox-door.mjs). By AI agents, Wed Nov 11 2026. No macro, syntax, notation, axiom, sorry.
-/
import Derived.Test.YtakedciemnkfhaaGreatDoorRows
import GoSem.ClaimSeven
namespace Go.Proofs.YtakedciemnkfhaaGreatDoor
namespace Rows

/-- THE TIED CARD OF 'laws.FnExactDaily'. -/
def fnExactDailyCard : Claim7 := { stood := { row := fnExactDailyRow, standIns := [], harness := (true, "6aa898099b7951bf3d5d15ef5a51ca7bbbe8f15dc69b08f11e3ad63c6ae3e287"), looks := false }, kinds := [], alts := [], laidByText := true, laidKinds := [.data], laidTests := true, laidLooks := .later }
def FnExactDailyCardSaid : Prop := Claim7.holds Tryz.pinned (.plain (OpenSpec.ofChange fnExactDailySpec)) fnExactDailyCard

/-- THE TIED CARD OF 'laws.FnExactWithin'. -/
def fnExactWithinCard : Claim7 := { stood := { row := fnExactWithinRow, standIns := [], harness := (true, "6aa898099b7951bf3d5d15ef5a51ca7bbbe8f15dc69b08f11e3ad63c6ae3e287"), looks := false }, kinds := [], alts := [], laidByText := true, laidKinds := [.data], laidTests := true, laidLooks := .later }
def FnExactWithinCardSaid : Prop := Claim7.holds Tryz.pinned (.plain (OpenSpec.ofChange fnExactWithinSpec)) fnExactWithinCard

/-- THE SECOND FORM's CARD OF 'laws.FnExactDaily'. -/
def fnExactDailyUptoCard : Claim7 := { stood := { row := fnExactDailyUptoRow, standIns := [], harness := (true, "6aa898099b7951bf3d5d15ef5a51ca7bbbe8f15dc69b08f11e3ad63c6ae3e287"), looks := false }, kinds := [], alts := [], laidByText := true, laidKinds := [.data], laidTests := true, laidLooks := .later }
def FnExactDailyUptoCardSaid : Prop := Claim7.holds Tryz.pinned (.plain (OpenSpec.upto fnExactDailySpec)) fnExactDailyUptoCard

/-- THE SECOND FORM's CARD OF 'laws.FnExactWithin'. -/
def fnExactWithinUptoCard : Claim7 := { stood := { row := fnExactWithinUptoRow, standIns := [], harness := (true, "6aa898099b7951bf3d5d15ef5a51ca7bbbe8f15dc69b08f11e3ad63c6ae3e287"), looks := false }, kinds := [], alts := [], laidByText := true, laidKinds := [.data], laidTests := true, laidLooks := .later }
def FnExactWithinUptoCardSaid : Prop := Claim7.holds Tryz.pinned (.plain (OpenSpec.upto fnExactWithinSpec)) fnExactWithinUptoCard
end Rows
end Go.Proofs.YtakedciemnkfhaaGreatDoor
