/-
  Graphs as the laws count, copy and compare them: contracts in one word.
-/
import Derived.Test.YtiagdabikbjbiaaDGraph
import Derived.Test.YtiagdabikbjbiaaXC
namespace Go.Proofs.Ytiagdabikbjbiaa
open Go.RowKit

def graphSz (g : GraphD) : Nat := g.places.length + roadsSz g.roads + g.bans.length
theorem gphQ_of {g : GraphD} (h : graphSz g ≤ 1048576) : GphQ g := by
  unfold graphSz roadsSz at h
  exact ⟨by omega, by omega, by omega⟩
theorem szGraph_v (v : Value) (g : GraphD) (bs : List Nat) (left : Int) (w : World) (hV : GphV w v g bs) (hN : GphN g) (h0 : 0 ≤ left) (h1 : left ≤ 1048576) :
    Calls Try.prog 5 #[v, .int .i64 left] w fun e w' => e = .returned (.int .i64 (szR left (graphSz g))) ∧ Bel w w' := by
  obtain ⟨a0, c0, a1, c1, a2, c2, b0, b1, b2, _, rfl, t0, t1, t2⟩ := hV
  obtain ⟨k0, k1, k2⟩ := hN
  unfold maxLen at k0 k1 k2
  exact szGraph_any _ _ _ g.places b0 _ _ _ g.roads b1 _ _ _ g.bans b2 left w t0 rfl t1 rfl t2 rfl k0 k1 k2 h0 h1
theorem toGraph_v (v : Value) (g : GraphD) (bs : List Nat) (w : World) (hV : GphV w v g bs) (hQ : GphQ g) :
    Calls Try.prog 8 #[v] w fun e w' => ∃ v' bs', e = .returned v' ∧ GphV w' v' g bs' ∧ Fresh w w' bs' ∧ Bel w w' := by
  obtain ⟨a0, c0, a1, c1, a2, c2, b0, b1, b2, _, rfl, t0, t1, t2⟩ := hV
  refine (toGraph_any _ _ _ g.places b0 _ _ _ g.roads b1 _ _ _ g.bans b2 w t0 rfl t1 rfl t2 rfl hQ.1 hQ.2.1 hQ.2.2).mono ?_
  rintro e w' ⟨B0, d0, B1, d1, B2, d2, rfl, h0, h1, h2, hF, hb⟩
  exact ⟨_, _, rfl, ⟨_, _, _, _, _, _, d0, d1, d2, rfl, rfl, h0, h1, h2⟩, hF, hb⟩
theorem eqGraph_v (v v' : Value) (g : GraphD) (bs bs' : List Nat) (w : World) (hV : GphV w v g bs) (hV' : GphV w v' g bs') (hQ : GphQ g) :
    Calls Try.prog 11 #[v, v'] w fun e w' => e = .returned (.bool true) ∧ Bel w w' := by
  obtain ⟨a0, c0, a1, c1, a2, c2, b0, b1, b2, _, rfl, t0, t1, t2⟩ := hV
  obtain ⟨a0', c0', a1', c1', a2', c2', b0', b1', b2', _, rfl, t0', t1', t2'⟩ := hV'
  exact eqGraph_same _ _ _ g.places b0 _ _ _ g.roads b1 _ _ _ g.bans b2 _ _ b0' _ _ b1' _ _ b2' w t0 rfl t1 rfl t2 rfl t0' t1' t2' hQ.1 hQ.2.1 hQ.2.2
end Go.Proofs.Ytiagdabikbjbiaa
