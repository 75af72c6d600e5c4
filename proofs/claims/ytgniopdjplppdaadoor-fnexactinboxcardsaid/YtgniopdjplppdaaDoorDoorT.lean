/-
  The tables that the program's text lays, as the walks want them; how a code and a cell that are handed in are read.
-/
import Derived.Test.YtgniopdjplppdaaDoorBitC
import Derived.Test.YtgniopdjplppdaaDoorOpen
import Derived.Test.YtgniopdjplppdaaDoorTie
import Derived.Test.YtgniopdjplppdaaDoorCards
import Derived.ProofKit
import Derived.Carry
import Derived.LaidMore
import Derived.OpenShut
import Derived.Stop.Joined
import Derived.Lib.SmallJoins
import Derived.Lib.LaidTab
import Derived.SevenTiedAt
namespace Go.Proofs.YtgniopdjplppdaaDoor
open Go.ChangeShapes Go.WideShapes Go.ChangeAt Go.RowKit Go.Joins

theorem own : ownKnob Tryd.prog.godebug = none := by kernel_rfl
theorem laidOut : laidOutB Tryd.prog = true := by kernel_rfl
theorem gSp : Tryd.prog.globalNamed "loop.example/g00024/impl.spreadOf" = some 0 := by kernel_rfl
theorem tSp : (Tryd.prog.globals[0]?).map (·.type) = some 87 := by kernel_rfl
theorem gGt : Tryd.prog.globalNamed "loop.example/g00024/impl.gatherOf" = some 1 := by kernel_rfl
theorem tGt : (Tryd.prog.globals[1]?).map (·.type) = some 96 := by kernel_rfl
theorem cellsU : Tryd.prog.cellsOf 24 = 1 := by kernel_rfl
theorem cellsI : Tryd.prog.cellsOf 2 = 1 := by kernel_rfl
theorem cellsSp : Tryd.prog.cellsOf 87 = 16 := by kernel_rfl
theorem cellsGt : Tryd.prog.cellsOf 96 = 8 := by kernel_rfl
theorem cellsLC : Tryd.prog.cellsOf 34 = 2 := by kernel_rfl

theorem var_below {P : Program} {B g : Nat} {W W' : World} {n : String} {cs : Array Value} (h : Below B W W') (hg : P.globalNamed n = some g) (hgB : g < B) (hv : W.var? P n = some cs) : W'.var? P n = some cs := by
  unfold World.var? at hv ⊢
  simp only [hg, Option.bind_some] at hv ⊢
  rw [h.block g hgB]
  exact hv

def spL : List Int := [0, 1, 4, 5, 16, 17, 20, 21, 64, 65, 68, 69, 80, 81, 84, 85]
def gtL : List Int := [0, 1, 0, 1, 2, 3, 2, 3]
theorem spL_at : ∀ t, t < 16 → spL[t]? = some ((spr 4 t : Nat) : Int) := by decide
theorem gtL_at : ∀ t, t < 8 → gtL[t]? = some ((t % 2 + t / 4 * 2 : Nat) : Int) := by decide

/-- What the condition gives the walks: the table of mixed bits. -/
theorem sp_of_laid {W : World} (h : laidMetH Tryd.prog Rows.fnExactCodeOfRow.laid W) : SpTab W := by
  rw [MakeChecks.laidMetH_plain _ _ _ (by kernel_rfl)] at h
  obtain ⟨ps, ⟨g0, t0, cs0, f0, p0, q0, hg0, ht0, hv0, hd0, _, _⟩, _, _⟩ := h
  obtain rfl := Option.some.inj (gSp.symm.trans hg0)
  obtain rfl := Option.some.inj (tSp.symm.trans ht0)
  have hc := Lib.cells_of_tab (k := .u64) (zs := spL) Tryd.underlying87 Tryd.underlying24 cellsU cellsSp hd0
  have hat := fun j => World.var?_cell hg0 hv0 j
  have key : ∀ t, t < 16 → W.cell? ⟨0, t, none⟩ = some (.int .u64 ((spr 4 t : Nat) : Int)) := fun t ht => by
    rw [hat t, ← Array.getElem?_toList, hc, List.getElem?_map, spL_at t ht]
    rfl
  exact ⟨World.block_lt_of_cell? W _ (key 0 (by decide)), key⟩
theorem gt_of_laid {W : World} (h : laidMetH Tryd.prog Rows.fnExactPointOfRow.laid W) : GtTab W := by
  rw [MakeChecks.laidMetH_plain _ _ _ (by kernel_rfl)] at h
  obtain ⟨ps, ⟨g0, t0, cs0, f0, p0, q0, hg0, ht0, hv0, hd0, _, _⟩, _, _⟩ := h
  obtain rfl := Option.some.inj (gGt.symm.trans hg0)
  obtain rfl := Option.some.inj (tGt.symm.trans ht0)
  have hc := Lib.cells_of_tab (k := .i64) (zs := gtL) Tryd.underlying96 Tryd.underlying2 cellsI cellsGt hd0
  have hat := fun j => World.var?_cell hg0 hv0 j
  have key : ∀ t, t < 8 → W.cell? ⟨1, t, none⟩ = some (.int .i64 ((t % 2 + t / 4 * 2 : Nat) : Int)) := fun t ht => by
    rw [hat t, ← Array.getElem?_toList, hc, List.getElem?_map, gtL_at t ht]
    rfl
  exact ⟨World.block_lt_of_cell? W _ (key 0 (by decide)), key⟩

theorem u64_of_wf {x : Int} (h : (Lit.int .u64 x).wf = true) : ∃ k : Nat, x = k ∧ k < 18446744073709551616 := by
  simp [Lit.wf, IntKind.min, IntKind.max, IntKind.signed, IntKind.bits] at h
  exact ⟨x.toNat, by omega, by omega⟩
set_option maxRecDepth 100000 in
theorem open_u {H : Type} {enc : TypeId × Value → H} {W : World} {base : Nat} {v : Value} {d : DataW H} {p : List MemPlace}
    (hv : Value.okWide Tryd.prog W .any base 24 v) (h : DataW.Trod enc Tryd.prog W 0 (fun _ => true) true 24 v d p) : ∃ k : Nat, v = .int .u64 (k : Int) ∧ k < 18446744073709551616 := by
  obtain ⟨x, rfl, _, _, wx⟩ := open_int Tryd.underlying24 hv h
  obtain ⟨k, rfl, hk⟩ := u64_of_wf wx
  exact ⟨k, rfl, hk⟩
set_option maxRecDepth 100000 in
theorem open_cel {H : Type} {enc : TypeId × Value → H} {W : World} {base : Nat} {v : Value} {d : DataW H} {p : List MemPlace}
    (hv : Value.okWide Tryd.prog W .any base 34 v) (h : DataW.Trod enc Tryd.prog W 0 (fun _ => true) true 34 v d p) :
    ∃ (k : Nat) (l : Int), v = .agg #[.int .u64 (k : Int), .int .i64 l] ∧ k < 18446744073709551616 := by
  obtain ⟨c0, c1, y0, y1, m, rfl, rfl, rfl, hy0, hy1⟩ := open_agg2 Tryd.underlying34 (by kernel_rfl) cellsLC hv h
  obtain ⟨a, e0, rfl, wa⟩ := DataW.trod_int Tryd.underlying24 hy0
  obtain ⟨b, e1, rfl, wb⟩ := DataW.trod_int Tryd.underlying2 hy1
  simp at e0 e1
  subst e0 e1
  obtain ⟨k, rfl, hk⟩ := u64_of_wf wa
  exact ⟨k, b, rfl, hk⟩
end Go.Proofs.YtgniopdjplppdaaDoor
