/-
  DERIVED. GIVEN WITH THE SEED: THE CARDS: each row of YtdlgehnoiaoneaaGreatDoorRows.lean that lists a variable, with what it lists TIED to the program's text (the seventh form; the later family's looks); each row that meets fmt, with fmt's text TOLD by the authors' own Lean function (tested against real Go, not proved from fmt's source: count such statements apart). THE CARD IS WHAT COUNTS. Prove the row's statement (the work); the ties are given (YtdlgehnoiaoneaaGreatDoorTie.lean); close each card by the builder's one call (the guide's Derived/Test/ToyasCard.lean, 'card_holds'). Laid BY PROGRAM, IN A SANDBOX (cutbox-door.mjs). By AI agents, Wed Nov 11 2026. No macro, syntax, notation, axiom, sorry.
-/
import Derived.Test.YtdlgehnoiaoneaaGreatDoorRows
import GoSem.ClaimSeven
namespace Go.Proofs.YtdlgehnoiaoneaaGreatDoor
namespace Rows

/-- THE TIED CARD OF 'laws.FnExactWithin'. -/
def fnExactWithinCard : Claim7 := { stood := { row := fnExactWithinRow, standIns := [], harness := (true, "64f23df0121a48fff4a4c3160d104653458b9f6d58a4175ee3ce9ae65b661fb5"), looks := false }, kinds := [], alts := [], laidByText := true, laidKinds := [.data], laidTests := true, laidLooks := .later }
def FnExactWithinCardSaid : Prop := Claim7.holds Tryz.pinned (.plain (OpenSpec.ofChange fnExactWithinSpec)) fnExactWithinCard

/-- THE SECOND FORM's CARD OF 'laws.FnExactWithin'. -/
def fnExactWithinUptoCard : Claim7 := { stood := { row := fnExactWithinUptoRow, standIns := [], harness := (true, "64f23df0121a48fff4a4c3160d104653458b9f6d58a4175ee3ce9ae65b661fb5"), looks := false }, kinds := [], alts := [], laidByText := true, laidKinds := [.data], laidTests := true, laidLooks := .later }
def FnExactWithinUptoCardSaid : Prop := Claim7.holds Tryz.pinned (.plain (OpenSpec.upto fnExactWithinSpec)) fnExactWithinUptoCard
end Rows
end Go.Proofs.YtdlgehnoiaoneaaGreatDoor
