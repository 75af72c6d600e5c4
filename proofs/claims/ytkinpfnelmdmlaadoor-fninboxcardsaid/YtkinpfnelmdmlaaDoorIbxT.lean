/-
  The table of mixed bits that the program's text lays, as FnInBox's row has it.
-/
import Derived.Test.YtkinpfnelmdmlaaDoorBitC
import Derived.Test.YtkinpfnelmdmlaaDoorOpen
import Derived.Test.YtkinpfnelmdmlaaDoorTie
import Derived.Test.YtkinpfnelmdmlaaDoorCards
import Derived.ProofKit
import Derived.Carry
import Derived.LaidMore
import Derived.OpenShut
import Derived.Stop.Joined
import Derived.Lib.SmallJoins
import Derived.Lib.LaidTab
import Derived.SevenTiedAt
namespace Go.Proofs.YtkinpfnelmdmlaaDoor
open Go.ChangeShapes Go.WideShapes Go.ChangeAt Go.RowKit Go.Joins

theorem own : ownKnob Tryd.prog.godebug = none := by kernel_rfl
theorem laidOut : laidOutB Tryd.prog = true := by kernel_rfl
theorem gSp : Tryd.prog.globalNamed "loop.example/g00024/impl.spreadOf" = some 0 := by kernel_rfl
theorem tSp : (Tryd.prog.globals[0]?).map (·.type) = some 65 := by kernel_rfl
theorem cellsU : Tryd.prog.cellsOf 37 = 1 := by kernel_rfl
theorem cellsSp : Tryd.prog.cellsOf 65 = 16 := by kernel_rfl

theorem var_below {P : Program} {B g : Nat} {W W' : World} {n : String} {cs : Array Value} (h : Below B W W') (hg : P.globalNamed n = some g) (hgB : g < B) (hv : W.var? P n = some cs) : W'.var? P n = some cs := by
  unfold World.var? at hv ⊢
  simp only [hg, Option.bind_some] at hv ⊢
  rw [h.block g hgB]
  exact hv

def spL : List Int := [0, 1, 4, 5, 16, 17, 20, 21, 64, 65, 68, 69, 80, 81, 84, 85]
theorem spL_at : ∀ t, t < 16 → spL[t]? = some ((spr 4 t : Nat) : Int) := by decide

/-- What the condition gives the walks: the table of mixed bits. -/
theorem sp_of_laid {W : World} (h : laidMetH Tryd.prog Rows.fnInBoxRow.laid W) : SpTab W := by
  rw [MakeChecks.laidMetH_plain _ _ _ (by kernel_rfl)] at h
  obtain ⟨ps, ⟨g0, t0, cs0, f0, p0, q0, hg0, ht0, hv0, hd0, _, _⟩, _, _⟩ := h
  obtain rfl := Option.some.inj (gSp.symm.trans hg0)
  obtain rfl := Option.some.inj (tSp.symm.trans ht0)
  have hc := Lib.cells_of_tab (k := .u64) (zs := spL) Tryd.underlying65 Tryd.underlying37 cellsU cellsSp hd0
  have hat := fun j => World.var?_cell hg0 hv0 j
  have key : ∀ t, t < 16 → W.cell? ⟨0, t, none⟩ = some (.int .u64 ((spr 4 t : Nat) : Int)) := fun t ht => by
    rw [hat t, ← Array.getElem?_toList, hc, List.getElem?_map, spL_at t ht]
    rfl
  exact ⟨World.block_lt_of_cell? W _ (key 0 (by decide)), key⟩
/-- The door's own heap meets the condition. -/
theorem door_met (os : Os) (args : Array Value) : laidMetH Tryd.prog Rows.fnInBoxRow.laid ((World.doorLaid Tryd.prog 14 os).forCall (fun _ _ => 0) ⟨#[], args, []⟩).memory :=
  laidMetH_of_parts3 (fuel := 8) (laidMet_of_run' 8 (by kernel_rfl) (by kernel_rfl)) (by kernel_rfl) (by kernel_rfl)
end Go.Proofs.YtkinpfnelmdmlaaDoor
