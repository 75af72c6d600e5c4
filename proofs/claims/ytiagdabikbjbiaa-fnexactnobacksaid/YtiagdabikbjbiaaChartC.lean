/-
  Contract of the question whether a chart can be: for every chart.
-/
import Derived.Test.YtiagdabikbjbiaaXB
namespace Go.Proofs.Ytiagdabikbjbiaa
open Go.RowKit Go.Maps

/-- What is asked of a map, but for how many there are. -/
structure ChartP (ns : List NodeD) (ws : List WayD) (rs : List AreaD) (nn nw na : Nat) : Prop where
  b1 : AscP nn (nId ns) (nTg ns)
  b2 : AscP nw (wId ws) (wTg ws)
  b3 : AscP na (aId rs) (aTg rs)
  b4 : ∀ i, i < nn → nPk ns i = true
  b5 : ∀ i (h : i < ws.length), WayP nn (nId ns) ws[i].nodes
  b6 : ∀ i (h : i < rs.length), AreaP nw (wId ws) rs[i].parts

end Go.Proofs.Ytiagdabikbjbiaa
