/-
  Timetables as the laws count, copy and compare them: contracts in one word.
-/
import Derived.Test.YtonedkibbdbgjaaDLines
import Derived.Test.YtonedkibbdbgjaaLinO
namespace Go.Proofs.Ytonedkibbdbgjaa
open Go.RowKit

def linesSz (g : LinesD) : Nat := strsSz g.stops + trpsSz g.trips + g.walks.length
theorem linQ_of {g : LinesD} (h : linesSz g ≤ 1048576) : LinQ g := by
  unfold linesSz strsSz trpsSz at h
  refine ⟨by omega, by omega, by omega, fun i hi => ?_⟩
  have h1 := sumTo_succ trpSz hi
  have h2 := sumTo_le trpSz (l := g.trips) (k := i + 1) (n := g.trips.length) (by omega) rfl
  have h3 : trpSz g.trips[i] = g.trips[i].line.size + g.trips[i].calls.length := rfl
  omega
end Go.Proofs.Ytonedkibbdbgjaa
