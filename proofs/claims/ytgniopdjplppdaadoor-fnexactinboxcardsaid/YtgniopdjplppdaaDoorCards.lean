/-
  DERIVED. GIVEN WITH THE SEED: THE CARDS: each row of YtgniopdjplppdaaDoorRows.lean that lists a variable, with what it lists TIED to the program's text (the seventh form; the later family's looks); each row that meets fmt, with fmt's text TOLD by the authors' own Lean function (tested against real Go, not proved from fmt's source: count such statements apart). THE CARD IS WHAT COUNTS. Prove the row's statement (the work); the ties are given (YtgniopdjplppdaaDoorTie.lean); close each card by the builder's one call (the guide's Derived/Test/ToyasCard.lean, 'card_holds'). Laid BY PROGRAM, IN A SANDBOX (cutbox-door.mjs). By AI agents, Wed Nov 11 2026. No macro, syntax, notation, axiom, sorry.
-/
import Derived.Test.YtgniopdjplppdaaDoorRows
import GoSem.ClaimSeven
namespace Go.Proofs.YtgniopdjplppdaaDoor
namespace Rows

/-- THE TIED CARD OF 'laws.FnExactCodeOf'. -/
def fnExactCodeOfCard : Claim7 := { stood := { row := fnExactCodeOfRow, standIns := [], harness := (true, "2d8e5bc06695d223354c68dba622053917134b15dbf2e69ffb7016659f1dd2d4"), looks := false }, kinds := [], alts := [], laidByText := true, laidKinds := [.data], laidTests := true, laidLooks := .later }
def FnExactCodeOfCardSaid : Prop := Claim7.holds Tryd.pinned (.plain (OpenSpec.ofChange fnExactCodeOfSpec)) fnExactCodeOfCard

/-- THE TIED CARD OF 'laws.FnExactPointOf'. -/
def fnExactPointOfCard : Claim7 := { stood := { row := fnExactPointOfRow, standIns := [], harness := (true, "2d8e5bc06695d223354c68dba622053917134b15dbf2e69ffb7016659f1dd2d4"), looks := false }, kinds := [], alts := [], laidByText := true, laidKinds := [.data], laidTests := true, laidLooks := .later }
def FnExactPointOfCardSaid : Prop := Claim7.holds Tryd.pinned (.plain (OpenSpec.ofChange fnExactPointOfSpec)) fnExactPointOfCard

/-- THE TIED CARD OF 'laws.FnExactCellBox'. -/
def fnExactCellBoxCard : Claim7 := { stood := { row := fnExactCellBoxRow, standIns := [], harness := (true, "2d8e5bc06695d223354c68dba622053917134b15dbf2e69ffb7016659f1dd2d4"), looks := false }, kinds := [], alts := [], laidByText := true, laidKinds := [.data], laidTests := true, laidLooks := .later }
def FnExactCellBoxCardSaid : Prop := Claim7.holds Tryd.pinned (.plain (OpenSpec.ofChange fnExactCellBoxSpec)) fnExactCellBoxCard

/-- THE TIED CARD OF 'laws.FnExactCover'. -/
def fnExactCoverCard : Claim7 := { stood := { row := fnExactCoverRow, standIns := [], harness := (true, "2d8e5bc06695d223354c68dba622053917134b15dbf2e69ffb7016659f1dd2d4"), looks := false }, kinds := [], alts := [], laidByText := true, laidKinds := [.data], laidTests := true, laidLooks := .later }
def FnExactCoverCardSaid : Prop := Claim7.holds Tryd.pinned (.plain (OpenSpec.ofChange fnExactCoverSpec)) fnExactCoverCard

/-- THE TIED CARD OF 'laws.FnExactSortSpace'. -/
def fnExactSortSpaceCard : Claim7 := { stood := { row := fnExactSortSpaceRow, standIns := [], harness := (true, "2d8e5bc06695d223354c68dba622053917134b15dbf2e69ffb7016659f1dd2d4"), looks := false }, kinds := [], alts := [], laidByText := true, laidKinds := [.data], laidTests := true, laidLooks := .later }
def FnExactSortSpaceCardSaid : Prop := Claim7.holds Tryd.pinned (.plain (OpenSpec.ofChange fnExactSortSpaceSpec)) fnExactSortSpaceCard

/-- THE TIED CARD OF 'laws.FnExactInBox'. -/
def fnExactInBoxCard : Claim7 := { stood := { row := fnExactInBoxRow, standIns := [], harness := (true, "2d8e5bc06695d223354c68dba622053917134b15dbf2e69ffb7016659f1dd2d4"), looks := false }, kinds := [], alts := [], laidByText := true, laidKinds := [.data], laidTests := true, laidLooks := .later }
def FnExactInBoxCardSaid : Prop := Claim7.holds Tryd.pinned (.plain (OpenSpec.ofChange fnExactInBoxSpec)) fnExactInBoxCard

/-- THE SECOND FORM's CARD OF 'laws.FnExactCodeOf'. -/
def fnExactCodeOfUptoCard : Claim7 := { stood := { row := fnExactCodeOfUptoRow, standIns := [], harness := (true, "2d8e5bc06695d223354c68dba622053917134b15dbf2e69ffb7016659f1dd2d4"), looks := false }, kinds := [], alts := [], laidByText := true, laidKinds := [.data], laidTests := true, laidLooks := .later }
def FnExactCodeOfUptoCardSaid : Prop := Claim7.holds Tryd.pinned (.plain (OpenSpec.upto fnExactCodeOfSpec)) fnExactCodeOfUptoCard

/-- THE SECOND FORM's CARD OF 'laws.FnExactPointOf'. -/
def fnExactPointOfUptoCard : Claim7 := { stood := { row := fnExactPointOfUptoRow, standIns := [], harness := (true, "2d8e5bc06695d223354c68dba622053917134b15dbf2e69ffb7016659f1dd2d4"), looks := false }, kinds := [], alts := [], laidByText := true, laidKinds := [.data], laidTests := true, laidLooks := .later }
def FnExactPointOfUptoCardSaid : Prop := Claim7.holds Tryd.pinned (.plain (OpenSpec.upto fnExactPointOfSpec)) fnExactPointOfUptoCard

/-- THE SECOND FORM's CARD OF 'laws.FnExactCellBox'. -/
def fnExactCellBoxUptoCard : Claim7 := { stood := { row := fnExactCellBoxUptoRow, standIns := [], harness := (true, "2d8e5bc06695d223354c68dba622053917134b15dbf2e69ffb7016659f1dd2d4"), looks := false }, kinds := [], alts := [], laidByText := true, laidKinds := [.data], laidTests := true, laidLooks := .later }
def FnExactCellBoxUptoCardSaid : Prop := Claim7.holds Tryd.pinned (.plain (OpenSpec.upto fnExactCellBoxSpec)) fnExactCellBoxUptoCard

/-- THE SECOND FORM's CARD OF 'laws.FnExactCover'. -/
def fnExactCoverUptoCard : Claim7 := { stood := { row := fnExactCoverUptoRow, standIns := [], harness := (true, "2d8e5bc06695d223354c68dba622053917134b15dbf2e69ffb7016659f1dd2d4"), looks := false }, kinds := [], alts := [], laidByText := true, laidKinds := [.data], laidTests := true, laidLooks := .later }
def FnExactCoverUptoCardSaid : Prop := Claim7.holds Tryd.pinned (.plain (OpenSpec.upto fnExactCoverSpec)) fnExactCoverUptoCard

/-- THE SECOND FORM's CARD OF 'laws.FnExactSortSpace'. -/
def fnExactSortSpaceUptoCard : Claim7 := { stood := { row := fnExactSortSpaceUptoRow, standIns := [], harness := (true, "2d8e5bc06695d223354c68dba622053917134b15dbf2e69ffb7016659f1dd2d4"), looks := false }, kinds := [], alts := [], laidByText := true, laidKinds := [.data], laidTests := true, laidLooks := .later }
def FnExactSortSpaceUptoCardSaid : Prop := Claim7.holds Tryd.pinned (.plain (OpenSpec.upto fnExactSortSpaceSpec)) fnExactSortSpaceUptoCard

/-- THE SECOND FORM's CARD OF 'laws.FnExactInBox'. -/
def fnExactInBoxUptoCard : Claim7 := { stood := { row := fnExactInBoxUptoRow, standIns := [], harness := (true, "2d8e5bc06695d223354c68dba622053917134b15dbf2e69ffb7016659f1dd2d4"), looks := false }, kinds := [], alts := [], laidByText := true, laidKinds := [.data], laidTests := true, laidLooks := .later }
def FnExactInBoxUptoCardSaid : Prop := Claim7.holds Tryd.pinned (.plain (OpenSpec.upto fnExactInBoxSpec)) fnExactInBoxUptoCard
end Rows
end Go.Proofs.YtgniopdjplppdaaDoor
