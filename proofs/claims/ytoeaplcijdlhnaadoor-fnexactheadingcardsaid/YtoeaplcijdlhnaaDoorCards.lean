/-
  DERIVED. GIVEN WITH THE SEED: THE CARDS: each row of YtoeaplcijdlhnaaDoorRows.lean that lists a variable, with what it lists TIED to the program's text (the seventh form; the later family's looks); each row that meets fmt, with fmt's text TOLD by the authors' own Lean function (tested against real Go, not proved from fmt's source: count such statements apart). THE CARD IS WHAT COUNTS. Prove the row's statement (the work); the ties are given (YtoeaplcijdlhnaaDoorTie.lean); close each card by the builder's one call (the guide's Derived/Test/ToyasCard.lean, 'card_holds'). Laid BY PROGRAM, IN A SANDBOX (cutbox-door.mjs). By AI agents, Wed Nov 11 2026. No macro, syntax, notation, axiom, sorry.
-/
import Derived.Test.YtoeaplcijdlhnaaDoorRows
import GoSem.ClaimSeven
namespace Go.Proofs.YtoeaplcijdlhnaaDoor
namespace Rows

/-- THE TIED CARD OF 'laws.FnExactHeading'. -/
def fnExactHeadingCard : Claim7 := { stood := { row := fnExactHeadingRow, standIns := [], harness := (true, "60ca88aad290ae098a064e5545c06b03189b04bca94d75a698194e408d0b8f22"), looks := false }, kinds := [], alts := [], laidByText := true, laidKinds := [.data], laidTests := true, laidLooks := .later }
def FnExactHeadingCardSaid : Prop := Claim7.holds Tryd.pinned (.plain (OpenSpec.ofChange fnExactHeadingSpec)) fnExactHeadingCard

/-- THE SECOND FORM's CARD OF 'laws.FnExactHeading'. -/
def fnExactHeadingUptoCard : Claim7 := { stood := { row := fnExactHeadingUptoRow, standIns := [], harness := (true, "60ca88aad290ae098a064e5545c06b03189b04bca94d75a698194e408d0b8f22"), looks := false }, kinds := [], alts := [], laidByText := true, laidKinds := [.data], laidTests := true, laidLooks := .later }
def FnExactHeadingUptoCardSaid : Prop := Claim7.holds Tryd.pinned (.plain (OpenSpec.upto fnExactHeadingSpec)) fnExactHeadingUptoCard
end Rows
end Go.Proofs.YtoeaplcijdlhnaaDoor
