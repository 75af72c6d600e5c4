/-
  PROVED: for every cell CellBox answers as its model does, and the cell that was handed in stays as it was; the table that it reads is tied to the program's own text. No other condition.
-/
import Derived.Test.YtgniopdjplppdaaDoorCbxC
import Derived.Test.YtgniopdjplppdaaDoorBoundsD
import Derived.Test.YtgniopdjplppdaaDoorDoorT
namespace Go.Proofs.YtgniopdjplppdaaDoor
open Go.ChangeShapes Go.WideShapes Go.ChangeAt Go.RowKit Go.Joins

theorem toCell_any (k : Nat) (l : Int) (w : World) :
    Calls Tryd.prog 16 #[cel k l] w fun e w' => e = .returned (cel k l) ∧ Bel w w' := by
  go_enter Tryd.func16, Tryd.ntmps16
  go_wp2
  exact bodyPost_ret (v := cel k l) (by simp [results, Tryd.results16, go_sem]) rfl ⟨rfl, bel_alloc (bel_alloc (bel_alloc (Bel.refl _) _) _) _⟩

set_option maxRecDepth 100000 in
set_option maxHeartbeats 1000000 in
theorem lawFnExactCellBox_any (k : Nat) (l : Int) (w : World) (hT : GtTab w) (_hk : k < 18446744073709551616) :
    Calls Tryd.prog 5 #[cel k l] w fun e w' => e = .returned (.bool true) ∧ Bel w w' := by
  have hb0 : Bel w (w.alloc (.cells #[.int .u64 (k : Int), .int .i64 l] 34)) := bel_alloc (Bel.refl _) _
  have X0 : Blk (w.alloc (.cells #[.int .u64 (k : Int), .int .i64 l] 34)) w.heap.size [.int .u64 (k : Int), .int .i64 l] := Blk.new w [.int .u64 (k : Int), .int .i64 l] _
  obtain ⟨a, Ha⟩ : ∃ k', Hid (cbA k l = k') := ⟨_, (rfl : cbA k l = _)⟩
  obtain ⟨b, Hb⟩ : ∃ k', Hid (cbB k l = k') := ⟨_, (rfl : cbB k l = _)⟩
  obtain ⟨c, Hc⟩ : ∃ k', Hid (cbC k l = k') := ⟨_, (rfl : cbC k l = _)⟩
  obtain ⟨d, Hd⟩ : ∃ k', Hid (cbD k l = k') := ⟨_, (rfl : cbD k l = _)⟩
  go_enter Tryd.func5, Tryd.ntmps5
  go_wp2_with fail
  refine (toCell_any _ _ _).mono ?_
  rintro e w1 ⟨rfl, hb1⟩
  go_wp2_with fail
  refine (specCellBox_any _ _ _).mono ?_
  rintro e w2 ⟨rfl, hb2⟩
  rw [Ha.out, Hb.out, Hc.out, Hd.out]
  have X2 := (X0.bel hb1).bel hb2
  have c0 := X2.cell 0 (by simp)
  have c1 := X2.cell 1 (by simp)
  simp only [List.getElem_cons_zero, List.getElem_cons_succ] at c0 c1
  have l2 := X2.lt
  have hB2 := bel_step (bel_step hb0 hb1) hb2
  obtain ⟨V, HV⟩ : ∃ V, Hid (V = w2.alloc (.cells #[.int .i64 a, .int .i64 b, .int .i64 c, .int .i64 d] 36)) := ⟨_, (rfl : w2.alloc (.cells #[.int .i64 a, .int .i64 b, .int .i64 c, .int .i64 d] 36) = _)⟩
  have hBV : Bel w V := by rw [HV.out]; exact bel_alloc hB2 _
  have Y0 : Blk V w2.heap.size [.int .i64 a, .int .i64 b, .int .i64 c, .int .i64 d] := by rw [HV.out]; exact Blk.new w2 [.int .i64 a, .int .i64 b, .int .i64 c, .int .i64 d] _
  clear X0 X2 hb1 hb2
  go_wp2_with fail
  rw [← HV.out]
  refine (toCell_any _ _ _).mono ?_
  rintro e w3 ⟨rfl, hb3⟩
  have hB3 := bel_step hBV hb3
  go_wp2_with fail
  refine (cellBox_any _ _ _ (hT.bel hB3)).mono ?_
  rintro e w4 ⟨rfl, hb4⟩
  rw [Ha.out, Hb.out, Hc.out, Hd.out]
  have Y4 := (Y0.bel hb3).bel hb4
  have d0 := Y4.cell 0 (by simp)
  have d1 := Y4.cell 1 (by simp)
  have d2 := Y4.cell 2 (by simp)
  have d3 := Y4.cell 3 (by simp)
  simp only [List.getElem_cons_zero, List.getElem_cons_succ] at d0 d1 d2 d3
  have l4 := Y4.lt
  have hB4 := bel_step hB3 hb4
  clear Y0 Y4 hb3 hb4
  go_wp2_with fail
  refine (eqBox_same _ _ _ _ _).mono ?_
  rintro e w5 ⟨rfl, hb5⟩
  go_wp2
  go_ret
  exact ⟨rfl, bel_step (bel_alloc hB4 _) hb5⟩

/-- The door's own heap meets the condition. -/
theorem door_met (os : Os) (args : Array Value) : laidMetH Tryd.prog Rows.fnExactCellBoxRow.laid ((World.doorLaid Tryd.prog 19 os).forCall (fun _ _ => 0) ⟨#[], args, []⟩).memory :=
  laidMetH_of_parts3 (fuel := 8) (laidMet_of_run' 8 (by kernel_rfl) (by kernel_rfl)) (by kernel_rfl) (by kernel_rfl)

set_option maxRecDepth 100000 in
theorem lifted (os : Os) (started : os.Started) (H : Type) (enc : TypeId × Value → H) :
    ReturnsInHanded {} Tryd.checked os 5 .any (fun w args => (Rows.fnExactCellBoxSpec.pre enc Tryd.prog Tryd.f5 [] false w args ∧ laidMetH Tryd.prog Rows.fnExactCellBoxRow.laid w) ∧ sizedMet enc Tryd.prog Tryd.f5 (OpenSpec.ofChange Rows.fnExactCellBoxSpec) false w args)
      (Rows.fnExactCellBoxSpec.post enc Tryd.prog Tryd.f5 false true false false) := by
  refine returnsInHanded_of_change_and (C := Tryd.checked) (X := fun w _ => laidMetH Tryd.prog Rows.fnExactCellBoxRow.laid w) (fun _ _ _ hh h => h.of_heap hh) own started (by kernel_rfl) Tryd.func5
    (ChangeSpec.witness_shaped (enc := enc) (C := Tryd.checked) (os := os) (X := fun w _ => laidMetH Tryd.prog Rows.fnExactCellBoxRow.laid w) false (World.doorLaid Tryd.prog 19 os) #[.agg #[.int .u64 0, .int .i64 0]] 8 rfl (World.shaped_of_RefB (by kernel_rfl) (by kernel_rfl)) (by kernel_rfl) (by kernel_rfl) (by kernel_rfl) (door_met os _)) ?_
  intro W base args ds gs before hval0 hW _ _ hL _
  have hval : ∀ (j : Nat) t v, Tryd.f5.params[j]? = some t → args[j]? = some v → Value.okWide Tryd.prog W .any base t v := hval0
  have hW' := hW
  obtain ⟨p, q, hA0, hV, rfl, hfz, hnd⟩ := hW
  have hA : DataW.TrodAll enc Tryd.prog W 0 (fun _ => true) true Tryd.f5.params.toList args.toList ds p := hA0
  rw [Tryd.params5] at hA hval
  obtain ⟨v0, vs0, d0, ds0, p0, q0, hargs, rfl, rfl, h0, r0⟩ := trodAll_cons hA
  obtain ⟨rfl, rfl, rfl⟩ := trodAll_nil r0
  obtain rfl : args = #[v0] := by cases args; simp_all
  obtain ⟨g, t, cs, fuel, dg, pg, rfl, hg, ht, hv, hd, rfl⟩ := trodVars_one hV
  obtain rfl := Option.some.inj (gGt.symm.trans hg)
  obtain rfl := Option.some.inj (tGt.symm.trans ht)
  have hT := gt_of_laid hL
  have k0 := h0
  have lt0 : ∀ x ∈ p0, x.block < W.heap.size := by obtain ⟨m, hm⟩ := k0; exact DataW.trod_lt m _ _ _ hm
  obtain ⟨x0, y0, rfl, wx0⟩ := open_cel (hval 0 34 v0 rfl rfl) h0
  have kg : DataW.Trod enc Tryd.prog W 0 (fun _ => true) true 96 (.agg cs) dg pg := ⟨fuel, hd⟩
  have ltg : ∀ x ∈ pg, x.block < W.heap.size := DataW.trod_lt fuel _ _ _ hd
  clear hA0 hval0
  refine (lawFnExactCellBox_any x0 y0 W hT wx0).mono fun e W' ⟨he, bel0⟩ => ?_
  have bel := bel0.out
  subst he
  obtain ⟨fuel', hd'⟩ := Below.trod laidOut (by kernel_rfl) (of_decide_eq_true (by kernel_rfl)) kg bel ltg
  exact ⟨_, rfl, _, _, _, [], _, _, hW', trodAll_mk1 (shut_bool Tryd.underlying4 _), (trodAll_cons_mk (Below.trod laidOut (by kernel_rfl) (of_decide_eq_true (by kernel_rfl)) k0 bel lt0) trodAll_mk0),
    trodVars_mk1 gGt tGt (var_below bel gGt hT.1 hv) (show DataW.trod enc Tryd.prog W' 0 (fun b => decide (b < W.heap.size)) true fuel' 96 cs.toList = some (dg, pg) from hd'), bel.frame _, fun h => by cases h⟩

theorem row_holds : Rows.FnExactCellBoxSaid :=
  OpenClaim.holds_of_wide 5 Tryd.f5 rfl rfl rfl rfl rfl rfl rfl ⟨rfl, rfl, rfl, rfl, rfl⟩ rfl rfl rfl rfl rfl (by kernel_rfl) Tryd.func5 (by kernel_rfl)
    (of_decide_eq_true (by kernel_rfl)) (by unfold Func.isWrapper; first | (rw [if_pos (by decide +kernel)]; kernel_rfl) | (rw [if_neg (by decide +kernel)]; exact ⟨rfl, rfl⟩))
    (fun os started H enc _ => lifted os started H enc)

theorem fnExactCellBox_card : Rows.FnExactCellBoxCardSaid :=
  Claim7.holds_tied_plain_at .later [] [.data] true Rows.fnExactCellBoxCard.stood.harness false
    row_holds (fun _ h => by cases h) (by kernel_rfl) (fun _ h => by cases h) fnExactCellBox_row_tie rfl ⟨rfl, rfl⟩ (by kernel_rfl) rfl
    (fun f fn hf hfn => by
      obtain rfl : f = 5 := Option.some.inj ((show Tryd.prog.funcNamed "loop.example/g00024/laws.FnExactCellBox" = some 5 by kernel_rfl).symm.trans hf) |>.symm
      obtain rfl : fn = Tryd.f5 := (Option.some.inj (Tryd.func5.symm.trans hfn)).symm
      exact ⟨by kernel_rfl, fun j t ht => by
        rw [Tryd.params5] at ht
        have hm : t ∈ [34] := by simpa using Array.mem_of_getElem? ht
        have hall : ([34].all fun u => !Tryd.prog.wantsStandIn u) = true := by kernel_rfl
        exact (show Tryd.prog.wantsStandIn t = false by simpa using List.all_eq_true.1 hall t hm)⟩)
    (by kernel_rfl)
#print axioms fnExactCellBox_card
end Go.Proofs.YtgniopdjplppdaaDoor
