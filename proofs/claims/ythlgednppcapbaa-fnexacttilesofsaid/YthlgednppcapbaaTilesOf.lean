/-
  PROVED: for every box and every zoom TilesOf answers as its model does; the answer shares no memory with that of another call. No condition.
-/
import Derived.Test.YthlgednppcapbaaTloC
import Derived.Test.YthlgednppcapbaaDTile
import Derived.Test.YthlgednppcapbaaMarkTl
namespace Go.Proofs.Ythlgednppcapbaa
open Go.ChangeShapes Go.WideShapes Go.ChangeAt Go.RowKit Go.Joins

set_option maxRecDepth 100000 in
set_option maxHeartbeats 2000000 in
theorem lawFnExactTilesOf_any (q : BoxD) (z : Int) (w : World) (_wz : (Lit.int .i64 z).wf = true) :
    Calls Try.prog 5 #[.agg #[.int .i64 q.a, .int .i64 q.b, .int .i64 q.c, .int .i64 q.d], .int .i64 z] w fun e w' => e = .returned (.bool true) ∧ Bel w w' := by
  obtain ⟨W0, HW0⟩ : ∃ V : World, Hid (V = w.alloc (.cells #[.int .i64 q.a, .int .i64 q.b, .int .i64 q.c, .int .i64 q.d] 36)) := ⟨_, (rfl : w.alloc (.cells #[.int .i64 q.a, .int .i64 q.b, .int .i64 q.c, .int .i64 q.d] 36) = _)⟩
  have S0 : Bel w W0 := by rw [HW0.out]; exact bel_alloc (Bel.refl _) _
  have XB : Blk W0 w.heap.size [.int .i64 q.a, .int .i64 q.b, .int .i64 q.c, .int .i64 q.d] := by rw [HW0.out]; exact Blk.new w [.int .i64 q.a, .int .i64 q.b, .int .i64 q.c, .int .i64 q.d] _
  have hlen := tlQ_len q z
  obtain ⟨L, HL⟩ : ∃ L, Hid (tlQ q z = L) := ⟨_, (rfl : tlQ q z = _)⟩
  rw [HL.out] at hlen
  obtain ⟨n, Hn⟩ : ∃ n, Hid (L.length = n) := ⟨_, (rfl : L.length = _)⟩
  rw [Hn.out] at hlen
  have hn : n ≤ 1048576 := by omega
  go_enter Try.func5, Try.ntmps5
  go_wp2_with fail
  rw [← HW0.out]
  refine (toBox_any q _).mono ?_
  rintro e w1 ⟨rfl, hb1⟩
  go_wp2_with fail
  refine (specTilesOf_any q z _).mono ?_
  rintro e w2 ⟨a2, c2', e2, rfl, I2, F2, hb2⟩
  rw [HL.out] at I2 ⊢
  rw [Hn.out]
  have B2 : Bel W0 w2 := bel_step hb1 hb2
  have X2 := XB.bel B2
  have c0 := X2.cell 0 (by simp)
  have c1 := X2.cell 1 (by simp)
  have c2 := X2.cell 2 (by simp)
  have c3 := X2.cell 3 (by simp)
  simp only [List.getElem_cons_zero, List.getElem_cons_succ] at c0 c1 c2 c3
  have xl := X2.lt
  have S2 := bel_step S0 B2
  clear X2 hb1 hb2
  go_wp2_with fail
  refine (toBox_any q _).mono ?_
  rintro e w3 ⟨rfl, hb3⟩
  have S3 := bel_step S2 hb3
  have I3 := I2.bel tileE hb3
  have B3 := bel_step B2 hb3
  clear c0 c1 c2 c3 xl
  go_wp2_with fail
  refine (tilesOf_any q z _).mono ?_
  rintro e w4 ⟨a4, c4', e4, rfl, I4, F4, hb4⟩
  rw [HL.out] at I4 ⊢
  rw [Hn.out]
  have S4 := bel_step S3 hb4
  have I42 := I3.bel tileE hb4
  have B4 := bel_step B3 hb4
  have D24 : ∀ x ∈ e2, x ∉ e4 := fun x hx hy => by have := I3.lt tileE x hx; have := (F4.new x hy).1; omega
  have he4 : ∀ x ∈ e4, W0.heap.size ≤ x := fun x hx => by have := (F4.new x hx).1; have := B3.out.size; omega
  have he4' : ∀ x ∈ e4, w.heap.size ≤ x := fun x hx => by have := he4 x hx; have := S0.out.size; omega
  clear I2 I3 F2
  go_wp2_with fail
  refine (eqTileS_same _ _ _ _ _ L _ _ _ I4 I42 Hn.out hn).mono ?_
  rintro e w5 ⟨rfl, hb5⟩
  have S5 := bel_step S4 hb5
  have B5 := bel_step B4 hb5
  have I54 := I4.bel tileE hb5
  have I52 := I42.bel tileE hb5
  have F5 := F4.bel hb5
  clear I4 I42 F4 hb3 hb4 hb5
  go_wp2_with fail
  refine (markTileS_any a4 _ c4' L e4 1 _ I54 F5.free Hn.out hn (by omega) (by omega)).mono ?_
  rintro e w6 ⟨rfl, M6, _, O6⟩
  have I62 := I52.alike tileE (O6.alike (I52.lt tileE) D24)
  have S6 : Bel w w6 := Onl.to_bel S5 O6 he4'
  have B6 : Bel W0 w6 := Onl.to_bel B5 O6 he4
  have hk1 : ¬ ((1 + 3 * n : Nat) : Int) < 0 := by omega
  clear I54 I52 F5 O6
  go_wp2_with fail
  refine (heldTileS_any a4 _ c4' L e4 1 _ M6 Hn.out hn (by omega)).mono ?_
  rintro e w7 ⟨rfl, rfl⟩
  have X7 := XB.bel B6
  have c0 := X7.cell 0 (by simp)
  have c1 := X7.cell 1 (by simp)
  have c2 := X7.cell 2 (by simp)
  have c3 := X7.cell 3 (by simp)
  simp only [List.getElem_cons_zero, List.getElem_cons_succ] at c0 c1 c2 c3
  have xl := X7.lt
  clear X7
  go_wp2_with fail
  refine (toBox_any q _).mono ?_
  rintro e w8 ⟨rfl, hb8⟩
  clear c0 c1 c2 c3 xl
  go_wp2_with fail
  refine (tilesOf_any q z _).mono ?_
  rintro e w9 ⟨a9, c9', e9, rfl, I9, F9, hb9⟩
  rw [HL.out] at I9 ⊢
  rw [Hn.out]
  have h79 := bel_step hb8 hb9
  have I92 := I62.bel tileE h79
  have M9 := M6.bel tileE h79
  have S9 := bel_step S6 h79
  clear I62 M6 F9 h79 hb8 hb9
  go_wp2_with fail
  refine (eqTileS_same _ _ _ _ _ L _ _ _ I9 I92 Hn.out hn).mono ?_
  rintro e w10 ⟨rfl, hb10⟩
  have M10 := M9.bel tileE hb10
  have S10 := bel_step S9 hb10
  clear I9 I92 M9
  go_wp2_with fail
  refine (heldTileS_any a4 _ c4' L e4 1 _ M10 Hn.out hn (by omega)).mono ?_
  rintro e w11 ⟨rfl, rfl⟩
  clear M10
  go_wp2
  go_ret
  exact ⟨rfl, S10⟩

theorem fnExactTilesOf_own : ownKnob Try.prog.godebug = none := by kernel_rfl
theorem fnExactTilesOf_laidOut : laidOutB Try.prog = true := by kernel_rfl

set_option maxRecDepth 100000 in
theorem fnExactTilesOf_lifted (os : Os) (started : os.Started) (H : Type) (enc : TypeId × Value → H) :
    ReturnsInHanded {} Try.checked os 5 .any (Rows.fnExactTilesOfSpec.pre6 enc Try.prog Try.f5 Rows.fnExactTilesOfRow.domain false) (Rows.fnExactTilesOfSpec.post enc Try.prog Try.f5 false true false false) := by
  refine returnsInHanded_of_change (C := Try.checked) fnExactTilesOf_own started (by kernel_rfl) Try.func5
    (ChangeSpec.witness6 (enc := enc) (C := Try.checked) false ⟨#[], #[.agg #[.int .i64 0, .int .i64 0, .int .i64 0, .int .i64 0], .int .i64 0], []⟩ 8 (by kernel_rfl) (by kernel_rfl) (by kernel_rfl) (by kernel_rfl)) ?_
  intro W base args ds gs before hval0 hW hcnd _
  have hval : ∀ (j : Nat) t v, Try.f5.params[j]? = some t → args[j]? = some v → Value.okWide Try.prog W .any base t v := hval0
  have hW' := hW
  obtain ⟨p, q, hA0, hV, rfl, hfz, hnd⟩ := hW
  have hA : DataW.TrodAll enc Try.prog W 0 (fun _ => true) true Try.f5.params.toList args.toList ds p := hA0
  rw [Try.params5] at hA hval
  obtain ⟨v0, vs0, d0, ds0, p0, q0, hargs, rfl, rfl, h0, r0⟩ := trodAll_cons hA
  obtain ⟨v1, vs1, d1, ds1, p1, q1, rfl, rfl, rfl, h1, r1⟩ := trodAll_cons r0
  obtain ⟨rfl, rfl, rfl⟩ := trodAll_nil r1
  obtain rfl : args = #[v0, v1] := by cases args; simp_all
  obtain ⟨rfl, rfl⟩ := trodVars_none hV
  have k0 := h0
  have lt0 : ∀ x ∈ p0, x.block < W.heap.size := by obtain ⟨m, hm⟩ := k0; exact DataW.trod_lt m _ _ _ hm
  obtain ⟨q0, rfl⟩ := open_box (hval 0 36 v0 rfl rfl) h0
  have k1 := h1
  have lt1 : ∀ x ∈ p1, x.block < W.heap.size := by obtain ⟨m, hm⟩ := k1; exact DataW.trod_lt m _ _ _ hm
  obtain ⟨x1, rfl, _, _, wx1⟩ := open_int Try.underlying2 (hval 1 2 v1 rfl rfl) h1
  clear hA0 hval0
  refine (lawFnExactTilesOf_any q0 x1 W wx1).mono fun e W' ⟨he, bel0⟩ => ?_
  have bel := bel0.out
  subst he
  exact ⟨_, rfl, _, _, _, [], _, [], hW', trodAll_mk1 (shut_bool Try.underlying4 _), (trodAll_cons_mk (Below.trod fnExactTilesOf_laidOut (by kernel_rfl) (of_decide_eq_true (by kernel_rfl)) k0 bel lt0) (trodAll_cons_mk (Below.trod fnExactTilesOf_laidOut (by kernel_rfl) (of_decide_eq_true (by kernel_rfl)) k1 bel lt1) trodAll_mk0)), rfl, bel.frame _, fun h => by cases h⟩

theorem fnExactTilesOf_over : Rows.fnExactTilesOfRow.holds Try.pinned (OpenSpec.ofChange Rows.fnExactTilesOfSpec) :=
  OpenClaim.holds_of_wide 5 Try.f5 rfl rfl rfl rfl rfl rfl rfl ⟨rfl, rfl, rfl, rfl, rfl⟩ rfl rfl rfl rfl rfl (by kernel_rfl) Try.func5 (by kernel_rfl)
    (of_decide_eq_true (by kernel_rfl)) (by unfold Func.isWrapper; first | (rw [if_pos (by decide +kernel)]; kernel_rfl) | (rw [if_neg (by decide +kernel)]; exact ⟨rfl, rfl⟩))
    (fun os started H enc _ => fnExactTilesOf_lifted os started H enc)

theorem fnExactTilesOf_holds : Rows.FnExactTilesOfSaid := fnExactTilesOf_over
#print axioms fnExactTilesOf_holds
end Go.Proofs.Ythlgednppcapbaa
