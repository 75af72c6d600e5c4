/-
  Timetables as the laws count, copy and compare them: contracts in one word.
-/
import Derived.Test.YtkmccjjghpnejaaDLines
import Derived.Test.YtkmccjjghpnejaaLinO
namespace Go.Proofs.Ytkmccjjghpnejaa
open Go.RowKit

def linesSz (g : LinesD) : Nat := strsSz g.stops + trpsSz g.trips + g.walks.length
theorem linQ_of {g : LinesD} (h : linesSz g ≤ 1048576) : LinQ g := by
 unfold linesSz strsSz trpsSz at h
 refine ⟨by omega, by omega, by omega, fun i hi => ?_⟩
 have h1 := sumTo_succ trpSz hi
 have h2 := sumTo_le trpSz (l := g.trips) (k := i + 1) (n := g.trips.length) (by omega) rfl
 have h3 : trpSz g.trips[i] = g.trips[i].line.size + g.trips[i].calls.length := rfl
 omega
theorem szLines_v (v : Value) (g : LinesD) (bs : List Nat) (left : Int) (w : World) (hV : LinV w v g bs) (hN : LinN g) (h0 : 0 ≤ left) (h1 : left ≤ 1048576) :
  Calls Try.prog 14 #[v, .int .i64 left] w fun e w' => e = .returned (.int .i64 (szR left (linesSz g))) ∧ Bel w w' := by
 obtain ⟨a0, c0, a1, c1, a2, c2, b0, b1, b2, _, rfl, t0, t1, t2⟩ := hV
 obtain ⟨k0, k1, k2⟩ := hN
 unfold maxLen at k0 k1 k2
 exact szLines_any _ _ _ g.stops b0 _ _ _ g.trips b1 _ _ _ g.walks b2 left w t0 rfl t1 rfl t2 rfl k0 k1 k2 h0 h1
theorem toLines_v (v : Value) (g : LinesD) (bs : List Nat) (w : World) (hV : LinV w v g bs) (hQ : LinQ g) :
  Calls Try.prog 16 #[v] w fun e w' => ∃ v' bs', e = .returned v' ∧ LinV w' v' g bs' ∧ Fresh w w' bs' ∧ Bel w w' := by
 obtain ⟨a0, c0, a1, c1, a2, c2, b0, b1, b2, _, rfl, t0, t1, t2⟩ := hV
 refine (toLines_any _ _ _ g.stops b0 _ _ _ g.trips b1 _ _ _ g.walks b2 w t0 rfl t1 rfl t2 rfl hQ.1 hQ.2.1 hQ.2.2.2 hQ.2.2.1).mono ?_
 rintro e w' ⟨B0, d0, B1, d1, B2, d2, rfl, h0, h1, h2, hF, hb⟩
 exact ⟨_, _, rfl, ⟨_, _, _, _, _, _, d0, d1, d2, rfl, rfl, h0, h1, h2⟩, hF, hb⟩
theorem eqLines_v (v v' : Value) (g : LinesD) (bs bs' : List Nat) (w : World) (hV : LinV w v g bs) (hV' : LinV w v' g bs') (hQ : LinQ g) :
  Calls Try.prog 18 #[v, v'] w fun e w' => e = .returned (.bool true) ∧ Bel w w' := by
 obtain ⟨a0, c0, a1, c1, a2, c2, b0, b1, b2, _, rfl, t0, t1, t2⟩ := hV
 obtain ⟨a0', c0', a1', c1', a2', c2', b0', b1', b2', _, rfl, t0', t1', t2'⟩ := hV'
 exact eqLines_same _ _ _ g.stops b0 _ _ _ g.trips b1 _ _ _ g.walks b2 _ _ b0' _ _ b1' _ _ b2' w t0 rfl t1 rfl t2 rfl t0' t1' t2' hQ.1 hQ.2.1 hQ.2.2.2 hQ.2.2.1
end Go.Proofs.Ytkmccjjghpnejaa
