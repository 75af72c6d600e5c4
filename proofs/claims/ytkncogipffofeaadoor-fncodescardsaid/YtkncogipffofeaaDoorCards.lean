/-
  DERIVED. GIVEN WITH THE SEED: THE CARDS: each row of YtkncogipffofeaaDoorRows.lean that lists a variable, with what it lists TIED to the program's text (the seventh form; the later family's looks); each row that meets fmt, with fmt's text TOLD by the authors' own Lean function (tested against real Go, not proved from fmt's source: count such statements apart). THE CARD IS WHAT COUNTS. Prove the row's statement (the work); the ties are given (YtkncogipffofeaaDoorTie.lean); close each card by the builder's one call (the guide's Derived/Test/ToyasCard.lean, 'card_holds'). Laid BY PROGRAM, IN A SANDBOX (cutbox-door.mjs). By AI agents, Wed Nov 11 2026. No macro, syntax, notation, axiom, sorry.
-/
import Derived.Test.YtkncogipffofeaaDoorRows
import GoSem.ClaimSeven
namespace Go.Proofs.YtkncogipffofeaaDoor
namespace Rows

/-- THE TIED CARD OF 'laws.FnCodes'. -/
def fnCodesCard : Claim7 := { stood := { row := fnCodesRow, standIns := [], harness := (true, "87be69aefa1295a6c1e16ddb43d2869880e0149abe8697e51997056e58b08ed4"), looks := false }, kinds := [], alts := [], laidByText := true, laidKinds := [.data, .data], laidTests := true, laidLooks := .later }
def FnCodesCardSaid : Prop := Claim7.holds Tryd.pinned (.plain (OpenSpec.ofChange fnCodesSpec)) fnCodesCard

/-- THE TIED CARD OF 'laws.FnHeadings'. -/
def fnHeadingsCard : Claim7 := { stood := { row := fnHeadingsRow, standIns := [], harness := (true, "87be69aefa1295a6c1e16ddb43d2869880e0149abe8697e51997056e58b08ed4"), looks := false }, kinds := [], alts := [], laidByText := true, laidKinds := [.data], laidTests := true, laidLooks := .later }
def FnHeadingsCardSaid : Prop := Claim7.holds Tryd.pinned (.plain (OpenSpec.ofChange fnHeadingsSpec)) fnHeadingsCard

/-- THE SECOND FORM's CARD OF 'laws.FnCodes'. -/
def fnCodesUptoCard : Claim7 := { stood := { row := fnCodesUptoRow, standIns := [], harness := (true, "87be69aefa1295a6c1e16ddb43d2869880e0149abe8697e51997056e58b08ed4"), looks := false }, kinds := [], alts := [], laidByText := true, laidKinds := [.data, .data], laidTests := true, laidLooks := .later }
def FnCodesUptoCardSaid : Prop := Claim7.holds Tryd.pinned (.plain (OpenSpec.upto fnCodesSpec)) fnCodesUptoCard

/-- THE SECOND FORM's CARD OF 'laws.FnHeadings'. -/
def fnHeadingsUptoCard : Claim7 := { stood := { row := fnHeadingsUptoRow, standIns := [], harness := (true, "87be69aefa1295a6c1e16ddb43d2869880e0149abe8697e51997056e58b08ed4"), looks := false }, kinds := [], alts := [], laidByText := true, laidKinds := [.data], laidTests := true, laidLooks := .later }
def FnHeadingsUptoCardSaid : Prop := Claim7.holds Tryd.pinned (.plain (OpenSpec.upto fnHeadingsSpec)) fnHeadingsUptoCard
end Rows
end Go.Proofs.YtkncogipffofeaaDoor
