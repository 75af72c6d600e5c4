/-
  How a point that is handed in is read: the value written out, its numbers within their kind.
  The table of winds that the program's text lays, as the walks want it.
-/
import Derived.Test.YtdlgehnoiaoneaaGreatDoorGA
import Derived.ProofKit
import Derived.Carry
import Derived.Lib.SmallJoins
import Derived.Test.YtdlgehnoiaoneaaGreatDoorGG
import Derived.Test.YtdlgehnoiaoneaaGreatDoorTie
import Derived.Test.YtdlgehnoiaoneaaGreatDoorCards
import Derived.LaidMore
import Derived.OpenShut
import Derived.Stop.Joined
import Derived.Lib.LaidTab
import Derived.SevenTiedAt
namespace Go.Proofs.YtdlgehnoiaoneaaGreatDoor
open Go.ChangeShapes Go.WideShapes Go.ChangeAt Go.RowKit Go.Joins

end Go.Proofs.YtdlgehnoiaoneaaGreatDoor

namespace Go.Proofs.YtdlgehnoiaoneaaGreatDoor
open Go.ChangeShapes Go.WideShapes Go.ChangeAt Go.RowKit Go.Joins

theorem own : ownKnob Tryz.prog.godebug = none := by kernel_rfl
theorem laidOut : laidOutB Tryz.prog = true := by kernel_rfl
theorem gWind : Tryz.prog.globalNamed "loop.example/g00024/impl.windOf" = some 0 := by kernel_rfl
theorem tWind : (Tryz.prog.globals[0]?).map (·.type) = some 122 := by kernel_rfl
theorem cells1 : Tryz.prog.cellsOf 2 = 1 := by kernel_rfl
theorem cells3 : Tryz.prog.cellsOf 121 = 3 := by kernel_rfl
theorem cells9 : Tryz.prog.cellsOf 122 = 9 := by kernel_rfl

theorem var_below {P : Program} {B g : Nat} {W W' : World} {n : String} {cs : Array Value} (h : Below B W W') (hg : P.globalNamed n = some g) (hgB : g < B) (hv : W.var? P n = some cs) : W'.var? P n = some cs := by
  unfold World.var? at hv ⊢
  simp only [hg, Option.bind_some] at hv ⊢
  rw [h.block g hgB]
  exact hv

/-- A row of the table. -/
theorem row_of {W : World} {fuel : Nat} {sp : Nat → Bool} {cs : List Value} {x : DataW Unit × List MemPlace} {enc : TypeId × Value → Unit} {a b c : Int}
    (h : DataW.trod enc Tryz.prog W 0 sp false fuel 121 cs = some x) (e : x.1 = .agg [.lit (.int .i64 a), .lit (.int .i64 b), .lit (.int .i64 c)]) : cs = [.int .i64 a, .int .i64 b, .int .i64 c] := by
  obtain ⟨d, p⟩ := x
  have e : d = Lib.tabData .i64 [a, b, c] := e
  subst e
  exact Lib.cells_of_tab Tryz.underlying121 Tryz.underlying2 cells1 cells3 h

set_option maxRecDepth 100000 in
/-- What the condition gives the walks: the table. -/
theorem winds_of_laid {W : World} (h : laidMetH Tryz.prog Rows.fnExactWithinRow.laid W) : Winds W := by
  rw [MakeChecks.laidMetH_plain _ _ _ (by kernel_rfl)] at h
  obtain ⟨ps, ⟨g0, t0, cs0, f0, p0, q0, hg0, ht0, hv0, hd0, _, _⟩, _, _⟩ := h
  obtain rfl := Option.some.inj (gWind.symm.trans hg0)
  obtain rfl := Option.some.inj (tWind.symm.trans ht0)
  obtain ⟨xs, m1, rfl, hx1, hlen, hn3, hel⟩ := DataW.trod_array Tryz.underlying122 hd0
  have h0 := hel 0 (by decide)
  have h1 := hel 1 (by decide)
  have h2 := hel 2 (by decide)
  rw [cells3] at h0 h1 h2
  rw [cells9] at hlen
  simp only [Prod.mk.injEq] at hx1
  match xs, hn3 with
  | [x0, x1, x2], _ =>
    have hx := hx1.1
    simp only [Rows.laid_loop_example_g00024_impl_windOf, DataW.agg.injEq, List.map_cons, List.map_nil, List.cons.injEq] at hx
    obtain ⟨e0, e1, e2, _⟩ := hx
    have r0 := row_of h0 e0.symm
    have r1 := row_of h1 e1.symm
    have r2 := row_of h2 e2.symm
    have hall : cs0.toList = [.int .i64 5, .int .i64 6, .int .i64 7, .int .i64 4, .int .i64 (-1), .int .i64 0, .int .i64 3, .int .i64 2, .int .i64 1] := by
      have e : cs0.toList = (cs0.toList.drop 0).take 3 ++ ((cs0.toList.drop 3).take 3 ++ (cs0.toList.drop 6).take 3) := by
        rw [show (cs0.toList.drop 6).take 3 = cs0.toList.drop 6 from List.take_of_length_le (by simp; simp at hlen; omega)]
        rw [show cs0.toList.drop 6 = (cs0.toList.drop 3).drop 3 by simp, List.take_append_drop]
        simp
      rw [e]
      simp only [Nat.zero_mul, Nat.one_mul, Nat.reduceMul] at r0 r1 r2
      rw [r0, r1, r2]
      rfl
    have hc := fun j => World.var?_cell hg0 hv0 j
    obtain ⟨l⟩ := cs0
    simp only at hall
    subst hall
    have c0 := hc 0
    have c1 := hc 1
    have c2 := hc 2
    have c3 := hc 3
    have c4 := hc 4
    have c5 := hc 5
    have c6 := hc 6
    have c7 := hc 7
    have c8 := hc 8
    simp at c0 c1 c2 c3 c4 c5 c6 c7 c8
    exact ⟨World.block_lt_of_cell? W _ c0, c0, c1, c2, c3, c4, c5, c6, c7, c8⟩

end Go.Proofs.YtdlgehnoiaoneaaGreatDoor
