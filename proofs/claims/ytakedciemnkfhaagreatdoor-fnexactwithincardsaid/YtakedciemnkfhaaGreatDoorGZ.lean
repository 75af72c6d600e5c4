/-
  Labels as data in memory.
  How labels that are handed in are read, one and a row of them.
  How a point that is handed in is read: the value written out, its numbers within their kind.
  The table of winds that the program's text lays, as the walks want it.
-/
import Derived.Test.YtakedciemnkfhaaGreatDoorGE
import Derived.Test.YtakedciemnkfhaaGreatDoorGI
import Derived.Test.YtakedciemnkfhaaGreatDoorGA
import Derived.ProofKit
import Derived.Carry
import Derived.Lib.SmallJoins
import Derived.Test.YtakedciemnkfhaaGreatDoorGG
import Derived.Test.YtakedciemnkfhaaGreatDoorTie
import Derived.Test.YtakedciemnkfhaaGreatDoorCards
import Derived.LaidMore
import Derived.OpenShut
import Derived.Stop.Joined
import Derived.Lib.LaidTab
import Derived.SevenTiedAt
namespace Go.Proofs.YtakedciemnkfhaaGreatDoor
open Go.RowKit Go.Maps

structure LblD where
 id : Int
 x : Int
 y : Int
 wd : Int
 ht : Int
 rk : Int
def LblE : Elem LblD := fun w b o d bs => bs = [] ∧ In64 d.id ∧ In64 d.x ∧ In64 d.y ∧ In64 d.wd ∧ In64 d.ht ∧ In64 d.rk ∧ w.cell? ⟨b, o, none⟩ = some (.int .i64 d.id) ∧ w.cell? ⟨b, o + 1, none⟩ = some (.int .i64 d.x) ∧ w.cell? ⟨b, o + 2, none⟩ = some (.int .i64 d.y) ∧
 w.cell? ⟨b, o + 3, none⟩ = some (.int .i64 d.wd) ∧ w.cell? ⟨b, o + 4, none⟩ = some (.int .i64 d.ht) ∧ w.cell? ⟨b, o + 5, none⟩ = some (.int .i64 d.rk)
theorem lblE : Stays 6 LblE := ⟨fun ⟨h0, i0, i1, i2, i3, i4, i5, h1, h2, h3, h4, h5, h6⟩ hc _ => ⟨h0, i0, i1, i2, i3, i4, i5, same_cell hc 0 (by decide) h1, same_cell hc 1 (by decide) h2, same_cell hc 2 (by decide) h3, same_cell hc 3 (by decide) h4, same_cell hc 4 (by decide) h5, same_cell hc 5 (by decide) h6⟩, fun ⟨h1, _⟩ x hx => by subst h1; cases hx⟩
abbrev LblL := Sl 6 LblE
def LblP (d : LblD) : Prop := In64 d.id ∧ In64 d.x ∧ In64 d.y ∧ In64 d.wd ∧ In64 d.ht ∧ In64 d.rk
def lblCs (d : LblD) : List Value := [.int .i64 d.id, .int .i64 d.x, .int .i64 d.y, .int .i64 d.wd, .int .i64 d.ht, .int .i64 d.rk]
/-- A label as a value. -/
abbrev lbv (d : LblD) : Value := .agg #[.int .i64 d.id, .int .i64 d.x, .int .i64 d.y, .int .i64 d.wd, .int .i64 d.ht, .int .i64 d.rk]
theorem lblF : Flat 6 LblE LblP lblCs :=
 ⟨fun _ => rfl, fun _ u hu => by simp only [lblCs, List.mem_cons, List.not_mem_nil, or_false] at hu; rcases hu with rfl | rfl | rfl | rfl | rfl | rfl <;> rfl,
  fun ⟨_, i0, i1, i2, i3, i4, i5, h1, h2, h3, h4, h5, h6⟩ => ⟨⟨i0, i1, i2, i3, i4, i5⟩, fun j hj => by match j, hj with | 0, _ => exact h1 | 1, _ => exact h2 | 2, _ => exact h3 | 3, _ => exact h4 | 4, _ => exact h5 | 5, _ => exact h6⟩,
  fun hp hc => ⟨rfl, hp.1, hp.2.1, hp.2.2.1, hp.2.2.2.1, hp.2.2.2.2.1, hp.2.2.2.2.2, hc 0 (by simp [lblCs]), hc 1 (by simp [lblCs]), hc 2 (by simp [lblCs]), hc 3 (by simp [lblCs]), hc 4 (by simp [lblCs]), hc 5 (by simp [lblCs])⟩⟩
end Go.Proofs.YtakedciemnkfhaaGreatDoor

namespace Go.Proofs.YtakedciemnkfhaaGreatDoor
open Go.ChangeShapes Go.WideShapes Go.ChangeAt Go.RowKit Go.Deep Go.Joins

instance : Inhabited LblD := ⟨⟨0, 0, 0, 0, 0, 0⟩⟩
theorem cellsLPl : Tryz.prog.cellsOf 97 = 2 := by kernel_rfl
section
variable {H : Type} {enc : TypeId × Value → H} {P : Program} {W : World} {base : Nat} {spare : Nat → Bool} {held : Bool}
theorem trod_struct5 {t : TypeId} {f0 f1 f2 f3 f4 : Field} {fuel : Nat} {cs : List Value} {x : DataW H × List MemPlace} (ht : P.underlying t = some (.struct #[f0, f1, f2, f3, f4])) (h : DataW.trod enc P W base spare held fuel t cs = some x) :
  ∃ y0 y1 y2 y3 y4 n, DataW.trod enc P W base spare held n f0.type ((cs.drop f0.offset).take (P.cellsOf f0.type)) = some y0 ∧
   DataW.trod enc P W base spare held n f1.type ((cs.drop f1.offset).take (P.cellsOf f1.type)) = some y1 ∧ DataW.trod enc P W base spare held n f2.type ((cs.drop f2.offset).take (P.cellsOf f2.type)) = some y2 ∧
   DataW.trod enc P W base spare held n f3.type ((cs.drop f3.offset).take (P.cellsOf f3.type)) = some y3 ∧ DataW.trod enc P W base spare held n f4.type ((cs.drop f4.offset).take (P.cellsOf f4.type)) = some y4 := by
 obtain ⟨xs, n, _, _, _, hlen, hf⟩ := DataW.trod_struct ht h
 match xs, hlen with
 | [y0, y1, y2, y3, y4], _ => exact ⟨y0, y1, y2, y3, y4, n, by simpa using hf 0 f0 rfl, by simpa using hf 1 f1 rfl, by simpa using hf 2 f2 rfl, by simpa using hf 3 f3 rfl, by simpa using hf 4 f4 rfl⟩
end
section
variable {H : Type} {enc : TypeId × Value → H} {W : World} {base : Nat} {spare : Nat → Bool} {held : Bool}
end
section
variable {H : Type} {enc : TypeId × Value → H} {W : World} {base : Nat} {spare : Nat → Bool} {held : Bool}
set_option maxRecDepth 100000 in
theorem openIs {fuel : Nat} {cs : List Value} {x : DataW H × List MemPlace} (h : DataW.trod enc Tryz.prog W base spare held fuel 27 cs = some x) :
  ∃ a c l bs, cs = [.slice a l.length c] ∧ Ints W a l bs ∧ l.length ≤ maxLen := by
 refine open_sl (by decide) Tryz.underlying27 cellsI64 ?_ h
 intro b o n cs x hl hc hx
 match cs, hl with
 | [v0], _ =>
  obtain ⟨s0, e0, _, z0⟩ := DataW.trod_int (t := 2) Tryz.underlying2 hx
  have e0 : v0 = .int .i64 s0 := by simpa using e0
  rw [e0] at hc
  exact ⟨s0, [], rfl, in64_of_wf z0, hc 0 (by simp)⟩
end
set_option maxRecDepth 100000 in
theorem open_ints {H : Type} {enc : TypeId × Value → H} {W : World} {base : Nat} {v : Value} {d : DataW H} {p : List MemPlace}
  (hv : Value.okWide Tryz.prog W .any base 27 v) (h : DataW.Trod enc Tryz.prog W 0 (fun _ => true) true 27 v d p) :
  ∃ a c l bs, v = .slice a l.length c ∧ Ints W a l bs ∧ l.length ≤ maxLen := by
 obtain ⟨a, n, c, rfl⟩ := okWide_slice Tryz.underlying27 hv
 obtain ⟨fuel, hf⟩ := h
 obtain ⟨a', c', l, bs, hcs, hT, hl⟩ := openIs hf
 simp [Value.cells] at hcs
 obtain ⟨rfl, rfl, rfl⟩ := hcs
 exact ⟨_, _, _, _, rfl, hT, hl⟩
end Go.Proofs.YtakedciemnkfhaaGreatDoor

namespace Go.Proofs.YtakedciemnkfhaaGreatDoor
open Go.ChangeShapes Go.WideShapes Go.ChangeAt Go.RowKit Go.Joins

theorem cellsLP : Tryz.prog.cellsOf 97 = 2 := by kernel_rfl

/-- A number within int64. -/
def I64 (x : Int) : Prop := -9223372036854775808 ≤ x ∧ x ≤ 9223372036854775807
theorem i64_of_wf {x : Int} (h : (Lit.int .i64 x).wf = true) : I64 x := by
 simp [Lit.wf, IntKind.min, IntKind.max, IntKind.signed, IntKind.bits] at h
 exact ⟨by omega, by omega⟩

set_option maxRecDepth 100000 in
theorem open_pt {H : Type} {enc : TypeId × Value → H} {W : World} {base : Nat} {v : Value} {d : DataW H} {p : List MemPlace}
  (hv : Value.okWide Tryz.prog W .any base 97 v) (h : DataW.Trod enc Tryz.prog W 0 (fun _ => true) true 97 v d p) :
  ∃ x y : Int, v = pt x y ∧ (Lit.int .i64 x).wf = true ∧ (Lit.int .i64 y).wf = true := by
 obtain ⟨c0, c1, y0, y1, m, rfl, rfl, rfl, hy0, hy1⟩ := open_agg2 Tryz.underlying97 (by kernel_rfl) cellsLP hv h
 obtain ⟨a, e0, rfl, wa⟩ := DataW.trod_int Tryz.underlying2 hy0
 obtain ⟨b, e1, rfl, wb⟩ := DataW.trod_int Tryz.underlying2 hy1
 simp at e0 e1
 subst e0 e1
 exact ⟨a, b, rfl, wa, wb⟩

end Go.Proofs.YtakedciemnkfhaaGreatDoor

namespace Go.Proofs.YtakedciemnkfhaaGreatDoor
open Go.ChangeShapes Go.WideShapes Go.ChangeAt Go.RowKit Go.Joins

theorem own : ownKnob Tryz.prog.godebug = none := by kernel_rfl
theorem laidOut : laidOutB Tryz.prog = true := by kernel_rfl
theorem gWind : Tryz.prog.globalNamed "loop.example/g00024/impl.windOf" = some 0 := by kernel_rfl
theorem tWind : (Tryz.prog.globals[0]?).map (·.type) = some 162 := by kernel_rfl
theorem cells1 : Tryz.prog.cellsOf 2 = 1 := by kernel_rfl
theorem cells3 : Tryz.prog.cellsOf 161 = 3 := by kernel_rfl
theorem cells9 : Tryz.prog.cellsOf 162 = 9 := by kernel_rfl

theorem var_below {P : Program} {B g : Nat} {W W' : World} {n : String} {cs : Array Value} (h : Below B W W') (hg : P.globalNamed n = some g) (hgB : g < B) (hv : W.var? P n = some cs) : W'.var? P n = some cs := by
 unfold World.var? at hv ⊢
 simp only [hg, Option.bind_some] at hv ⊢
 rw [h.block g hgB]
 exact hv

/-- A row of the table. -/
theorem row_of {W : World} {fuel : Nat} {sp : Nat → Bool} {cs : List Value} {x : DataW Unit × List MemPlace} {enc : TypeId × Value → Unit} {a b c : Int}
  (h : DataW.trod enc Tryz.prog W 0 sp false fuel 161 cs = some x) (e : x.1 = .agg [.lit (.int .i64 a), .lit (.int .i64 b), .lit (.int .i64 c)]) : cs = [.int .i64 a, .int .i64 b, .int .i64 c] := by
 obtain ⟨d, p⟩ := x
 have e : d = Lib.tabData .i64 [a, b, c] := e
 subst e
 exact Lib.cells_of_tab Tryz.underlying161 Tryz.underlying2 cells1 cells3 h

set_option maxRecDepth 100000 in
/-- What the condition gives the walks: the table. -/
theorem winds_of_laid {W : World} (h : laidMetH Tryz.prog Rows.fnExactDailyRow.laid W) : Winds W := by
 rw [MakeChecks.laidMetH_plain _ _ _ (by kernel_rfl)] at h
 obtain ⟨ps, ⟨g0, t0, cs0, f0, p0, q0, hg0, ht0, hv0, hd0, _, _⟩, _, _⟩ := h
 obtain rfl := Option.some.inj (gWind.symm.trans hg0)
 obtain rfl := Option.some.inj (tWind.symm.trans ht0)
 obtain ⟨xs, m1, rfl, hx1, hlen, hn3, hel⟩ := DataW.trod_array Tryz.underlying162 hd0
 have h0 := hel 0 (by decide)
 have h1 := hel 1 (by decide)
 have h2 := hel 2 (by decide)
 rw [cells3] at h0 h1 h2
 rw [cells9] at hlen
 simp only [Prod.mk.injEq] at hx1
 match xs, hn3 with
 | [x0, x1, x2], _ =>
  have hx := hx1.1
  simp only [Rows.laid_loop_example_g00024_impl_windOf, DataW.agg.injEq, List.map_cons, List.map_nil, List.cons.injEq] at hx
  obtain ⟨e0, e1, e2, _⟩ := hx
  have r0 := row_of h0 e0.symm
  have r1 := row_of h1 e1.symm
  have r2 := row_of h2 e2.symm
  have hall : cs0.toList = [.int .i64 5, .int .i64 6, .int .i64 7, .int .i64 4, .int .i64 (-1), .int .i64 0, .int .i64 3, .int .i64 2, .int .i64 1] := by
   have e : cs0.toList = (cs0.toList.drop 0).take 3 ++ ((cs0.toList.drop 3).take 3 ++ (cs0.toList.drop 6).take 3) := by
    rw [show (cs0.toList.drop 6).take 3 = cs0.toList.drop 6 from List.take_of_length_le (by simp; simp at hlen; omega)]
    rw [show cs0.toList.drop 6 = (cs0.toList.drop 3).drop 3 by simp, List.take_append_drop]
    simp
   rw [e]
   simp only [Nat.zero_mul, Nat.one_mul, Nat.reduceMul] at r0 r1 r2
   rw [r0, r1, r2]
   rfl
  have hc := fun j => World.var?_cell hg0 hv0 j
  obtain ⟨l⟩ := cs0
  simp only at hall
  subst hall
  have c0 := hc 0
  have c1 := hc 1
  have c2 := hc 2
  have c3 := hc 3
  have c4 := hc 4
  have c5 := hc 5
  have c6 := hc 6
  have c7 := hc 7
  have c8 := hc 8
  simp at c0 c1 c2 c3 c4 c5 c6 c7 c8
  exact ⟨World.block_lt_of_cell? W _ c0, c0, c1, c2, c3, c4, c5, c6, c7, c8⟩

end Go.Proofs.YtakedciemnkfhaaGreatDoor
