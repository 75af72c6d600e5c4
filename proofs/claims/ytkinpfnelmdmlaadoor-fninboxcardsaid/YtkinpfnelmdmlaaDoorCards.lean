/-
  DERIVED. GIVEN WITH THE SEED: THE CARDS: each row of YtkinpfnelmdmlaaDoorRows.lean that lists a variable, with what it lists TIED to the program's text (the seventh form; the later family's looks); each row that meets fmt, with fmt's text TOLD by the authors' own Lean function (tested against real Go, not proved from fmt's source: count such statements apart). THE CARD IS WHAT COUNTS. Prove the row's statement (the work); the ties are given (YtkinpfnelmdmlaaDoorTie.lean); close each card by the builder's one call (the guide's Derived/Test/ToyasCard.lean, 'card_holds'). Laid BY PROGRAM, IN A SANDBOX (cutbox-door.mjs). By AI agents, Wed Nov 11 2026. No macro, syntax, notation, axiom, sorry.
-/
import Derived.Test.YtkinpfnelmdmlaaDoorRows
import GoSem.ClaimSeven
namespace Go.Proofs.YtkinpfnelmdmlaaDoor
namespace Rows

/-- THE TIED CARD OF 'laws.FnInBox'. -/
def fnInBoxCard : Claim7 := { stood := { row := fnInBoxRow, standIns := [], harness := (true, "1d0434474ad083f4aa94262d00acf87546eb674f92a9ad7e3b96207fb705f265"), looks := false }, kinds := [], alts := [], laidByText := true, laidKinds := [.data], laidTests := true, laidLooks := .later }
def FnInBoxCardSaid : Prop := Claim7.holds Tryd.pinned (.plain (OpenSpec.ofChange fnInBoxSpec)) fnInBoxCard

/-- THE SECOND FORM's CARD OF 'laws.FnInBox'. -/
def fnInBoxUptoCard : Claim7 := { stood := { row := fnInBoxUptoRow, standIns := [], harness := (true, "1d0434474ad083f4aa94262d00acf87546eb674f92a9ad7e3b96207fb705f265"), looks := false }, kinds := [], alts := [], laidByText := true, laidKinds := [.data], laidTests := true, laidLooks := .later }
def FnInBoxUptoCardSaid : Prop := Claim7.holds Tryd.pinned (.plain (OpenSpec.upto fnInBoxSpec)) fnInBoxUptoCard
end Rows
end Go.Proofs.YtkinpfnelmdmlaaDoor
