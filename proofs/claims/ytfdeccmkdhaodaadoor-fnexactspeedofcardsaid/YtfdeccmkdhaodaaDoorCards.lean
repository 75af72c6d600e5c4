/-
  DERIVED. GIVEN WITH THE SEED: THE CARDS: each row of YtfdeccmkdhaodaaDoorRows.lean that lists a variable, with what it lists TIED to the program's text (the seventh form; the later family's looks); each row that meets fmt, with fmt's text TOLD by the authors' own Lean function (tested against real Go, not proved from fmt's source: count such statements apart). THE CARD IS WHAT COUNTS. Prove the row's statement (the work); the ties are given (YtfdeccmkdhaodaaDoorTie.lean); close each card by the builder's one call (the guide's Derived/Test/ToyasCard.lean, 'card_holds'). Laid BY PROGRAM, IN A SANDBOX (cutbox-door.mjs). By AI agents, Wed Nov 11 2026. No macro, syntax, notation, axiom, sorry.
-/
import Derived.Test.YtfdeccmkdhaodaaDoorRows
import GoSem.ClaimSeven
namespace Go.Proofs.YtfdeccmkdhaodaaDoor
namespace Rows

/-- THE TIED CARD OF 'laws.FnExactSpeedOf'. -/
def fnExactSpeedOfCard : Claim7 := { stood := { row := fnExactSpeedOfRow, standIns := [], harness := (true, "f1bdcf79709f6b3ae5c7c78f9675badae73d818667bf2f4c883b8fa2ff2d36d8"), looks := true }, kinds := [], alts := [], laidByText := true, laidKinds := [.data, .data, .data, .sentinel, .sentinel], laidTests := true, laidLooks := .later }
def FnExactSpeedOfCardSaid : Prop := Claim7.holds Tryd.pinned (.plain (OpenSpec.ofChange fnExactSpeedOfSpec)) fnExactSpeedOfCard

/-- THE SECOND FORM's CARD OF 'laws.FnExactSpeedOf'. -/
def fnExactSpeedOfUptoCard : Claim7 := { stood := { row := fnExactSpeedOfUptoRow, standIns := [], harness := (true, "f1bdcf79709f6b3ae5c7c78f9675badae73d818667bf2f4c883b8fa2ff2d36d8"), looks := true }, kinds := [], alts := [], laidByText := true, laidKinds := [.data, .data, .data, .sentinel, .sentinel], laidTests := true, laidLooks := .later }
def FnExactSpeedOfUptoCardSaid : Prop := Claim7.holds Tryd.pinned (.plain (OpenSpec.upto fnExactSpeedOfSpec)) fnExactSpeedOfUptoCard
end Rows
end Go.Proofs.YtfdeccmkdhaodaaDoor
