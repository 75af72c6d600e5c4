/-
  PROVED: for every code PointOf answers as its model does; the table that it reads is tied to the program's own text. No other condition.
-/
import Derived.Test.YtgniopdjplppdaaDoorCelC
import Derived.Test.YtgniopdjplppdaaDoorPtsC
import Derived.Test.YtgniopdjplppdaaDoorDoorT
namespace Go.Proofs.YtgniopdjplppdaaDoor
open Go.ChangeShapes Go.WideShapes Go.ChangeAt Go.RowKit Go.Joins

set_option maxRecDepth 100000 in
set_option maxHeartbeats 1000000 in
theorem lawFnExactPointOf_any (c : Nat) (w : World) (hT : GtTab w) (hc : c < 18446744073709551616) :
    Calls Tryd.prog 4 #[.int .u64 (c : Int)] w fun e w' => e = .returned (.bool true) ∧ Bel w w' := by
  obtain ⟨x, Hx⟩ : ∃ k, Hid (pofX c = k) := ⟨_, (rfl : pofX c = _)⟩
  obtain ⟨y, Hy⟩ : ∃ k, Hid (pofY c = k) := ⟨_, (rfl : pofY c = _)⟩
  obtain ⟨b, Hb⟩ : ∃ k, Hid (pofB c = k) := ⟨_, (rfl : pofB c = _)⟩
  go_enter Tryd.func4, Tryd.ntmps4
  go_wp2_with fail
  refine (specPointOf_any _ _ hc).mono ?_
  rintro e w1 ⟨rfl, hb1⟩
  rw [Hx.out, Hy.out, Hb.out]
  go_wp2_with fail
  refine (pointOf_any _ _ (hT.bel (bel_alloc hb1 _)) hc).mono ?_
  rintro e w2 ⟨rfl, hb2⟩
  rw [Hx.out, Hy.out, Hb.out]
  have X1 : Blk w2 w1.heap.size [.int .i64 x, .int .i64 y] := (Blk.new w1 [.int .i64 x, .int .i64 y] _).bel hb2
  have c0 := X1.cell 0 (by simp)
  have c1 := X1.cell 1 (by simp)
  simp only [List.getElem_cons_zero, List.getElem_cons_succ] at c0 c1
  have l1 := X1.lt
  have hB2 := bel_step (bel_alloc hb1 _) hb2
  clear X1 hb1 hb2
  go_wp2_with fail
  refine (eqPoint_same _ _ _).mono ?_
  rintro e w3 ⟨rfl, hb3⟩
  have hbb : (b != b) = false := by cases b <;> rfl
  go_wp2
  go_ret
  exact ⟨rfl, bel_step (bel_alloc hB2 _) hb3⟩

/-- The door's own heap meets the condition. -/
theorem door_met (os : Os) (args : Array Value) : laidMetH Tryd.prog Rows.fnExactPointOfRow.laid ((World.doorLaid Tryd.prog 19 os).forCall (fun _ _ => 0) ⟨#[], args, []⟩).memory :=
  laidMetH_of_parts3 (fuel := 8) (laidMet_of_run' 8 (by kernel_rfl) (by kernel_rfl)) (by kernel_rfl) (by kernel_rfl)

set_option maxRecDepth 100000 in
theorem lifted (os : Os) (started : os.Started) (H : Type) (enc : TypeId × Value → H) :
    ReturnsInHanded {} Tryd.checked os 4 .any (fun w args => (Rows.fnExactPointOfSpec.pre enc Tryd.prog Tryd.f4 [] false w args ∧ laidMetH Tryd.prog Rows.fnExactPointOfRow.laid w) ∧ sizedMet enc Tryd.prog Tryd.f4 (OpenSpec.ofChange Rows.fnExactPointOfSpec) false w args)
      (Rows.fnExactPointOfSpec.post enc Tryd.prog Tryd.f4 false true false false) := by
  refine returnsInHanded_of_change_and (C := Tryd.checked) (X := fun w _ => laidMetH Tryd.prog Rows.fnExactPointOfRow.laid w) (fun _ _ _ hh h => h.of_heap hh) own started (by kernel_rfl) Tryd.func4
    (ChangeSpec.witness_shaped (enc := enc) (C := Tryd.checked) (os := os) (X := fun w _ => laidMetH Tryd.prog Rows.fnExactPointOfRow.laid w) false (World.doorLaid Tryd.prog 19 os) #[.int .u64 0] 8 rfl (World.shaped_of_RefB (by kernel_rfl) (by kernel_rfl)) (by kernel_rfl) (by kernel_rfl) (by kernel_rfl) (door_met os _)) ?_
  intro W base args ds gs before hval0 hW _ _ hL _
  have hval : ∀ (j : Nat) t v, Tryd.f4.params[j]? = some t → args[j]? = some v → Value.okWide Tryd.prog W .any base t v := hval0
  have hW' := hW
  obtain ⟨p, q, hA0, hV, rfl, hfz, hnd⟩ := hW
  have hA : DataW.TrodAll enc Tryd.prog W 0 (fun _ => true) true Tryd.f4.params.toList args.toList ds p := hA0
  rw [Tryd.params4] at hA hval
  obtain ⟨v0, vs0, d0, ds0, p0, q0, hargs, rfl, rfl, h0, r0⟩ := trodAll_cons hA
  obtain ⟨rfl, rfl, rfl⟩ := trodAll_nil r0
  obtain rfl : args = #[v0] := by cases args; simp_all
  obtain ⟨g, t, cs, fuel, dg, pg, rfl, hg, ht, hv, hd, rfl⟩ := trodVars_one hV
  obtain rfl := Option.some.inj (gGt.symm.trans hg)
  obtain rfl := Option.some.inj (tGt.symm.trans ht)
  have hT := gt_of_laid hL
  have k0 := h0
  have lt0 : ∀ x ∈ p0, x.block < W.heap.size := by obtain ⟨m, hm⟩ := k0; exact DataW.trod_lt m _ _ _ hm
  obtain ⟨x0, rfl, wx0⟩ := open_u (hval 0 24 v0 rfl rfl) h0
  have kg : DataW.Trod enc Tryd.prog W 0 (fun _ => true) true 96 (.agg cs) dg pg := ⟨fuel, hd⟩
  have ltg : ∀ x ∈ pg, x.block < W.heap.size := DataW.trod_lt fuel _ _ _ hd
  clear hA0 hval0
  refine (lawFnExactPointOf_any x0 W hT wx0).mono fun e W' ⟨he, bel0⟩ => ?_
  have bel := bel0.out
  subst he
  obtain ⟨fuel', hd'⟩ := Below.trod laidOut (by kernel_rfl) (of_decide_eq_true (by kernel_rfl)) kg bel ltg
  exact ⟨_, rfl, _, _, _, [], _, _, hW', trodAll_mk1 (shut_bool Tryd.underlying4 _), (trodAll_cons_mk (Below.trod laidOut (by kernel_rfl) (of_decide_eq_true (by kernel_rfl)) k0 bel lt0) trodAll_mk0),
    trodVars_mk1 gGt tGt (var_below bel gGt hT.1 hv) (show DataW.trod enc Tryd.prog W' 0 (fun b => decide (b < W.heap.size)) true fuel' 96 cs.toList = some (dg, pg) from hd'), bel.frame _, fun h => by cases h⟩

theorem row_holds : Rows.FnExactPointOfSaid :=
  OpenClaim.holds_of_wide 4 Tryd.f4 rfl rfl rfl rfl rfl rfl rfl ⟨rfl, rfl, rfl, rfl, rfl⟩ rfl rfl rfl rfl rfl (by kernel_rfl) Tryd.func4 (by kernel_rfl)
    (of_decide_eq_true (by kernel_rfl)) (by unfold Func.isWrapper; first | (rw [if_pos (by decide +kernel)]; kernel_rfl) | (rw [if_neg (by decide +kernel)]; exact ⟨rfl, rfl⟩))
    (fun os started H enc _ => lifted os started H enc)

theorem fnExactPointOf_card : Rows.FnExactPointOfCardSaid :=
  Claim7.holds_tied_plain_at .later [] [.data] true Rows.fnExactPointOfCard.stood.harness false
    row_holds (fun _ h => by cases h) (by kernel_rfl) (fun _ h => by cases h) fnExactPointOf_row_tie rfl ⟨rfl, rfl⟩ (by kernel_rfl) rfl
    (fun f fn hf hfn => by
      obtain rfl : f = 4 := Option.some.inj ((show Tryd.prog.funcNamed "loop.example/g00024/laws.FnExactPointOf" = some 4 by kernel_rfl).symm.trans hf) |>.symm
      obtain rfl : fn = Tryd.f4 := (Option.some.inj (Tryd.func4.symm.trans hfn)).symm
      exact ⟨by kernel_rfl, fun j t ht => by
        rw [Tryd.params4] at ht
        have hm : t ∈ [24] := by simpa using Array.mem_of_getElem? ht
        have hall : ([24].all fun u => !Tryd.prog.wantsStandIn u) = true := by kernel_rfl
        exact (show Tryd.prog.wantsStandIn t = false by simpa using List.all_eq_true.1 hall t hm)⟩)
    (by kernel_rfl)
#print axioms fnExactPointOf_card
end Go.Proofs.YtgniopdjplppdaaDoor
