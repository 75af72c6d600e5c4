/-
  PROVED: the card of FnCodes: for every row of bytes the law says true; the two tables that it reads are tied to the program's own text. No other condition.
-/
import Derived.Test.YtkncogipffofeaaDoorCodes
import Derived.Test.YtkncogipffofeaaDoorTie
import Derived.Test.YtkncogipffofeaaDoorCards
import Derived.ProofKit
import Derived.Carry
import Derived.LaidMore
import Derived.OpenShut
import Derived.Stop.Joined
import Derived.Lib.SmallJoins
import Derived.Lib.LaidTab
import Derived.SevenTiedAt
namespace Go.Proofs.YtkncogipffofeaaDoor
open Go.ChangeShapes Go.WideShapes Go.ChangeAt Go.RowKit Go.Joins

theorem own : ownKnob Tryd.prog.godebug = none := by kernel_rfl
theorem laidOut : laidOutB Tryd.prog = true := by kernel_rfl
theorem gSp : Tryd.prog.globalNamed "loop.example/g00024/impl.spreadOf" = some 1 := by kernel_rfl
theorem tSp : (Tryd.prog.globals[1]?).map (·.type) = some 61 := by kernel_rfl
theorem gGt : Tryd.prog.globalNamed "loop.example/g00024/impl.gatherOf" = some 2 := by kernel_rfl
theorem tGt : (Tryd.prog.globals[2]?).map (·.type) = some 65 := by kernel_rfl
theorem cellsU : Tryd.prog.cellsOf 27 = 1 := by kernel_rfl
theorem cellsI : Tryd.prog.cellsOf 2 = 1 := by kernel_rfl
theorem cellsSp : Tryd.prog.cellsOf 61 = 16 := by kernel_rfl
theorem cellsGt : Tryd.prog.cellsOf 65 = 8 := by kernel_rfl

theorem var_below {P : Program} {B g : Nat} {W W' : World} {n : String} {cs : Array Value} (h : Below B W W') (hg : P.globalNamed n = some g) (hgB : g < B) (hv : W.var? P n = some cs) : W'.var? P n = some cs := by
  unfold World.var? at hv ⊢
  simp only [hg, Option.bind_some] at hv ⊢
  rw [h.block g hgB]
  exact hv

def spL : List Int := [0, 1, 4, 5, 16, 17, 20, 21, 64, 65, 68, 69, 80, 81, 84, 85]
def gtL : List Int := [0, 1, 0, 1, 2, 3, 2, 3]
theorem spL_at : ∀ t, t < 16 → spL[t]? = some ((spr 4 t : Nat) : Int) := by decide
theorem gtL_at : ∀ t, t < 8 → gtL[t]? = some ((t % 2 + t / 4 * 2 : Nat) : Int) := by decide

/-- The door's own heap meets the condition. -/
theorem door_met (os : Os) (args : Array Value) : laidMetH Tryd.prog Rows.fnCodesRow.laid ((World.doorLaid Tryd.prog 17 os).forCall (fun _ _ => 0) ⟨#[], args, []⟩).memory :=
  laidMetH_of_parts3 (fuel := 8) (laidMet_of_run' 8 (by kernel_rfl) (by kernel_rfl)) (by kernel_rfl) (by kernel_rfl)

/-- What the condition gives the walks: both tables. -/
theorem tabs_of_laid {W : World} (h : laidMetH Tryd.prog Rows.fnCodesRow.laid W) : SpTab W ∧ GtTab W := by
  rw [MakeChecks.laidMetH_plain _ _ _ (by kernel_rfl)] at h
  obtain ⟨ps, ⟨g0, t0, cs0, f0, p0, q0, hg0, ht0, hv0, hd0, ⟨g1, t1, cs1, f1, p1, q1, hg1, ht1, hv1, hd1, _, _⟩, _⟩, _, _⟩ := h
  obtain rfl := Option.some.inj (gSp.symm.trans hg0)
  obtain rfl := Option.some.inj (tSp.symm.trans ht0)
  obtain rfl := Option.some.inj (gGt.symm.trans hg1)
  obtain rfl := Option.some.inj (tGt.symm.trans ht1)
  have hc0 := Lib.cells_of_tab (k := .u64) (zs := spL) Tryd.underlying61 Tryd.underlying27 cellsU cellsSp hd0
  have hc1 := Lib.cells_of_tab (k := .i64) (zs := gtL) Tryd.underlying65 Tryd.underlying2 cellsI cellsGt hd1
  have hat0 := fun j => World.var?_cell hg0 hv0 j
  have hat1 := fun j => World.var?_cell hg1 hv1 j
  have key0 : ∀ t, t < 16 → W.cell? ⟨1, t, none⟩ = some (.int .u64 ((spr 4 t : Nat) : Int)) := fun t ht => by
    rw [hat0 t, ← Array.getElem?_toList, hc0, List.getElem?_map, spL_at t ht]
    rfl
  have key1 : ∀ t, t < 8 → W.cell? ⟨2, t, none⟩ = some (.int .i64 ((t % 2 + t / 4 * 2 : Nat) : Int)) := fun t ht => by
    rw [hat1 t, ← Array.getElem?_toList, hc1, List.getElem?_map, gtL_at t ht]
    rfl
  exact ⟨⟨World.block_lt_of_cell? W _ (key0 0 (by decide)), key0⟩, ⟨World.block_lt_of_cell? W _ (key1 0 (by decide)), key1⟩⟩

set_option maxRecDepth 100000 in
theorem lifted (os : Os) (started : os.Started) (H : Type) (enc : TypeId × Value → H) :
    ReturnsInHanded {} Tryd.checked os 3 .any (fun w args => (Rows.fnCodesSpec.pre enc Tryd.prog Tryd.f3 [] false w args ∧ laidMetH Tryd.prog Rows.fnCodesRow.laid w) ∧ sizedMet enc Tryd.prog Tryd.f3 (OpenSpec.ofChange Rows.fnCodesSpec) false w args)
      (Rows.fnCodesSpec.post enc Tryd.prog Tryd.f3 false true false false) := by
  refine returnsInHanded_of_change_and (C := Tryd.checked) (X := fun w _ => laidMetH Tryd.prog Rows.fnCodesRow.laid w) (fun _ _ _ hh h => h.of_heap hh) own started (by kernel_rfl) Tryd.func3
    (ChangeSpec.witness_shaped (enc := enc) (C := Tryd.checked) (os := os) (X := fun w _ => laidMetH Tryd.prog Rows.fnCodesRow.laid w) false (World.doorLaid Tryd.prog 17 os) #[.slice none 0 0] 8 rfl (World.shaped_of_RefB (by kernel_rfl) (by kernel_rfl)) (by kernel_rfl) (by kernel_rfl) (by kernel_rfl) (door_met os _)) ?_
  intro W base args ds gs before hval0 hW _ _ hL _
  have hval : ∀ (j : Nat) t v, Tryd.f3.params[j]? = some t → args[j]? = some v → Value.okWide Tryd.prog W .any base t v := hval0
  have hW' := hW
  obtain ⟨p, q, hA0, hV, rfl, hfz, hnd⟩ := hW
  have hA : DataW.TrodAll enc Tryd.prog W 0 (fun _ => true) true Tryd.f3.params.toList args.toList ds p := hA0
  rw [Tryd.params3] at hA hval
  obtain ⟨v0, vs0, d0, ds0, p0, q0, hargs, rfl, rfl, h0, r0⟩ := trodAll_cons hA
  obtain ⟨rfl, rfl, rfl⟩ := trodAll_nil r0
  obtain rfl : args = #[v0] := by cases args; simp_all
  obtain ⟨g, t, cs, fuel, dg, pg, g2, t2, cs2, fuel2, dg2, pg2, rfl, hg, ht, hv, hd, hg2, ht2, hv2, hd2, rfl⟩ := trodVars_two hV
  obtain rfl := Option.some.inj (gSp.symm.trans hg)
  obtain rfl := Option.some.inj (tSp.symm.trans ht)
  obtain rfl := Option.some.inj (gGt.symm.trans hg2)
  obtain rfl := Option.some.inj (tGt.symm.trans ht2)
  obtain ⟨hT, hG⟩ := tabs_of_laid hL
  have k0 := h0
  have lt0 : ∀ x ∈ p0, x.block < W.heap.size := by obtain ⟨m, hm⟩ := k0; exact DataW.trod_lt m _ _ _ hm
  obtain ⟨a0, n0, c0, rfl, ip0, im0⟩ := open_bytes (hval 0 22 v0 rfl rfl) h0
  have kg : DataW.Trod enc Tryd.prog W 0 (fun _ => true) true 61 (.agg cs) dg pg := ⟨fuel, hd⟩
  have kg2 : DataW.Trod enc Tryd.prog W 0 (fun _ => true) true 65 (.agg cs2) dg2 pg2 := ⟨fuel2, hd2⟩
  have ltg2 : ∀ x ∈ pg2, x.block < W.heap.size := DataW.trod_lt fuel2 _ _ _ hd2
  have ltg : ∀ x ∈ pg, x.block < W.heap.size := DataW.trod_lt fuel _ _ _ hd
  clear hA0 hval0
  refine (lawFnCodes_any a0 n0 c0 W hT hG ip0 im0).mono fun e W' ⟨he, bel0⟩ => ?_
  have bel := bel0.out
  subst he
  obtain ⟨fuel', hd'⟩ := Below.trod laidOut (by kernel_rfl) (of_decide_eq_true (by kernel_rfl)) kg bel ltg
  obtain ⟨fuel2', hd2'⟩ := Below.trod laidOut (by kernel_rfl) (of_decide_eq_true (by kernel_rfl)) kg2 bel ltg2
  exact ⟨_, rfl, _, _, _, [], _, _, hW', trodAll_mk1 (shut_bool Tryd.underlying4 _), (trodAll_cons_mk (Below.trod laidOut (by kernel_rfl) (of_decide_eq_true (by kernel_rfl)) k0 bel lt0) trodAll_mk0),
    ⟨_, _, _, fuel', _, _, gSp, tSp, var_below bel gSp hT.1 hv, (show DataW.trod enc Tryd.prog W' 0 (fun b => decide (b < W.heap.size)) true fuel' 61 cs.toList = some (dg, pg) from hd'), trodVars_mk1 gGt tGt (var_below bel gGt hG.1 hv2) (show DataW.trod enc Tryd.prog W' 0 (fun b => decide (b < W.heap.size)) true fuel2' 65 cs2.toList = some (dg2, pg2) from hd2'), rfl⟩, bel.frame _, fun h => by cases h⟩

theorem row_holds : Rows.FnCodesSaid :=
  OpenClaim.holds_of_wide 3 Tryd.f3 rfl rfl rfl rfl rfl rfl rfl ⟨rfl, rfl, rfl, rfl, rfl⟩ rfl rfl rfl rfl rfl (by kernel_rfl) Tryd.func3 (by kernel_rfl)
    (of_decide_eq_true (by kernel_rfl)) (by unfold Func.isWrapper; first | (rw [if_pos (by decide +kernel)]; kernel_rfl) | (rw [if_neg (by decide +kernel)]; exact ⟨rfl, rfl⟩))
    (fun os started H enc _ => lifted os started H enc)

theorem fnCodes_card : Rows.FnCodesCardSaid :=
  Claim7.holds_tied_plain_at .later [] [.data, .data] true Rows.fnCodesCard.stood.harness false
    row_holds (fun _ h => by cases h) (by kernel_rfl) (fun _ h => by cases h) fnCodes_row_tie rfl ⟨rfl, rfl⟩ (by kernel_rfl) rfl
    (fun f fn hf hfn => by
      obtain rfl : f = 3 := Option.some.inj ((show Tryd.prog.funcNamed "loop.example/g00024/laws.FnCodes" = some 3 by kernel_rfl).symm.trans hf) |>.symm
      obtain rfl : fn = Tryd.f3 := (Option.some.inj (Tryd.func3.symm.trans hfn)).symm
      exact ⟨by kernel_rfl, fun j t ht => by
        rw [Tryd.params3] at ht
        have hm : t ∈ [22] := by simpa using Array.mem_of_getElem? ht
        have hall : ([22].all fun u => !Tryd.prog.wantsStandIn u) = true := by kernel_rfl
        exact (show Tryd.prog.wantsStandIn t = false by simpa using List.all_eq_true.1 hall t hm)⟩)
    (by kernel_rfl)
#print axioms fnCodes_card
end Go.Proofs.YtkncogipffofeaaDoor
