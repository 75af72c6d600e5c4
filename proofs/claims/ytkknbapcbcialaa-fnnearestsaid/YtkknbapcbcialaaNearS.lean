/-
  Contract of the model's nearest place of a row: for every row of points that can be.
-/
import Derived.Test.YtkknbapcbcialaaFootO
namespace Go.Proofs.Ytkknbapcbcialaa
open Go.RowKit

/-- The place of a row as a value, behind k stretches. -/
abbrev nrV (n : Nat) (X Y : Nat → Int) (px py : Int) (k : Nat) : Value := ft (nrL n X Y px py k) (nrA n X Y px py k) (nrX n X Y px py k) (nrY n X Y px py k) (nrF n X Y px py k)
/-- What lies in memory behind k stretches. -/
structure NrAt (w : World) (n : Nat) (X Y : Nat → Int) (px py : Int) (k : Nat) (wr : World) : Prop where
  p : PtAt wr w.heap.size px py
  r : Room wr (w.heap.size + 1) 5
  f : Five wr (w.heap.size + 1 + 1) (nrL n X Y px py k) (nrA n X Y px py k) (nrX n X Y px py k) (nrY n X Y px py k) (nrF n X Y px py k)
  b : Bel w wr
theorem NrAt.bel {w : World} {n : Nat} {X Y : Nat → Int} {px py : Int} {k : Nat} {a b : World} (h : NrAt w n X Y px py k a) (hb : Bel a b) : NrAt w n X Y px py k b := ⟨h.p.bel hb, h.r.bel hb, h.f.bel hb, bel_step h.b hb⟩

theorem But.roomAt {w W : World} {B m : Nat} {a : World} (h : But w W B m a) {C l : Nat} (p : Room W C l) (hn : C ≠ B) : Room a C l :=
  ⟨Nat.lt_of_lt_of_le p.lt h.size, fun j hj => (p.there j hj).elim fun z e => ⟨z, h.read p.lt hn e⟩, fun j => by rw [h.froz C j p.lt]; exact p.fr j⟩

theorem NrAt.step {w : World} {n : Nat} {X Y : Nat → Int} {px py : Int} {k : Nat} {U a : World} (h : But w U (w.heap.size + 1 + 1) 5 a) (hM : NrAt w n X Y px py k U)
    (hF : Five a (w.heap.size + 1 + 1) (nrL n X Y px py (k + 1)) (nrA n X Y px py (k + 1)) (nrX n X Y px py (k + 1)) (nrY n X Y px py (k + 1)) (nrF n X Y px py (k + 1))) : NrAt w n X Y px py (k + 1) a :=
  ⟨h.at hM.p (by omega), h.roomAt hM.r (by omega), hF, h.b⟩

end Go.Proofs.Ytkknbapcbcialaa
