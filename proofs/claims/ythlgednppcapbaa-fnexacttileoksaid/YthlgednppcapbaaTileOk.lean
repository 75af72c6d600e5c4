/-
  PROVED: for every tile TileOk answers as its model does. No condition.
-/
import Derived.Test.YthlgednppcapbaaTilO
namespace Go.Proofs.Ythlgednppcapbaa
open Go.ChangeShapes Go.WideShapes Go.ChangeAt Go.RowKit Go.Joins

set_option maxHeartbeats 1000000 in
theorem lawFnExactTileOk_any (z x y : Int) (w : World) :
    Calls Try.prog 3 #[til z x y] w fun e w' => e = .returned (.bool true) ∧ Bel w w' := by
  have hb0 : Bel w (w.alloc (.cells #[.int .i64 z, .int .i64 x, .int .i64 y] 23)) := bel_alloc (Bel.refl _) _
  have X0 : Blk (w.alloc (.cells #[.int .i64 z, .int .i64 x, .int .i64 y] 23)) w.heap.size [.int .i64 z, .int .i64 x, .int .i64 y] := Blk.new w [.int .i64 z, .int .i64 x, .int .i64 y] _
  obtain ⟨r, Hr⟩ : ∃ r, Hid (tilB z x y = r) := ⟨_, (rfl : tilB z x y = _)⟩
  go_enter Try.func3, Try.ntmps3
  go_wp2_with fail
  refine (lawToTile_any _ _ _ _).mono ?_
  rintro e w1 ⟨rfl, hb1⟩
  go_wp2_with fail
  refine (specTileOk_any _ _ _ _).mono ?_
  rintro e w2 ⟨rfl, hb2⟩
  rw [Hr.out]
  have X2 := (X0.bel hb1).bel hb2
  have c0 := X2.cell 0 (by simp)
  have c1 := X2.cell 1 (by simp)
  have c2 := X2.cell 2 (by simp)
  simp only [List.getElem_cons_zero, List.getElem_cons_succ] at c0 c1 c2
  have l2 := X2.lt
  have hB2 := bel_step (bel_step hb0 hb1) hb2
  clear X0 X2 hb1 hb2
  go_wp2_with fail
  refine (lawToTile_any _ _ _ _).mono ?_
  rintro e w3 ⟨rfl, hb3⟩
  go_wp2_with fail
  refine (tileOk_any _ _ _ _).mono ?_
  rintro e w4 ⟨rfl, hb4⟩
  rw [Hr.out]
  have hB4 := bel_step (bel_step hB2 hb3) hb4
  clear c0 c1 c2 l2 hb3 hb4
  cases r
  all_goals (
    go_wp2
    go_ret
    exact ⟨rfl, hB4⟩)

theorem fnExactTileOk_own : ownKnob Try.prog.godebug = none := by kernel_rfl
theorem fnExactTileOk_laidOut : laidOutB Try.prog = true := by kernel_rfl

set_option maxRecDepth 100000 in
theorem fnExactTileOk_lifted (os : Os) (started : os.Started) (H : Type) (enc : TypeId × Value → H) :
    ReturnsInHanded {} Try.checked os 3 .any (Rows.fnExactTileOkSpec.pre6 enc Try.prog Try.f3 Rows.fnExactTileOkRow.domain false) (Rows.fnExactTileOkSpec.post enc Try.prog Try.f3 false true false false) := by
  refine returnsInHanded_of_change (C := Try.checked) fnExactTileOk_own started (by kernel_rfl) Try.func3
    (ChangeSpec.witness6 (enc := enc) (C := Try.checked) false ⟨#[], #[.agg #[.int .i64 0, .int .i64 0, .int .i64 0]], []⟩ 8 (by kernel_rfl) (by kernel_rfl) (by kernel_rfl) (by kernel_rfl)) ?_
  intro W base args ds gs before hval0 hW hcnd _
  have hval : ∀ (j : Nat) t v, Try.f3.params[j]? = some t → args[j]? = some v → Value.okWide Try.prog W .any base t v := hval0
  have hW' := hW
  obtain ⟨p, q, hA0, hV, rfl, hfz, hnd⟩ := hW
  have hA : DataW.TrodAll enc Try.prog W 0 (fun _ => true) true Try.f3.params.toList args.toList ds p := hA0
  rw [Try.params3] at hA hval
  obtain ⟨v0, vs0, d0, ds0, p0, q0, hargs, rfl, rfl, h0, r0⟩ := trodAll_cons hA
  obtain ⟨rfl, rfl, rfl⟩ := trodAll_nil r0
  obtain rfl : args = #[v0] := by cases args; simp_all
  obtain ⟨rfl, rfl⟩ := trodVars_none hV
  have k0 := h0
  have lt0 : ∀ x ∈ p0, x.block < W.heap.size := by obtain ⟨m, hm⟩ := k0; exact DataW.trod_lt m _ _ _ hm
  obtain ⟨z0, x0, y0, rfl⟩ := open_til (hval 0 23 v0 rfl rfl) h0
  clear hA0 hval0
  refine (lawFnExactTileOk_any z0 x0 y0 W ).mono fun e W' ⟨he, bel0⟩ => ?_
  have bel := bel0.out
  subst he
  exact ⟨_, rfl, _, _, _, [], _, [], hW', trodAll_mk1 (shut_bool Try.underlying4 _), (trodAll_cons_mk (Below.trod fnExactTileOk_laidOut (by kernel_rfl) (of_decide_eq_true (by kernel_rfl)) k0 bel lt0) trodAll_mk0), rfl, bel.frame _, fun h => by cases h⟩

theorem fnExactTileOk_over : Rows.fnExactTileOkRow.holds Try.pinned (OpenSpec.ofChange Rows.fnExactTileOkSpec) :=
  OpenClaim.holds_of_wide 3 Try.f3 rfl rfl rfl rfl rfl rfl rfl ⟨rfl, rfl, rfl, rfl, rfl⟩ rfl rfl rfl rfl rfl (by kernel_rfl) Try.func3 (by kernel_rfl)
    (of_decide_eq_true (by kernel_rfl)) (by unfold Func.isWrapper; first | (rw [if_pos (by decide +kernel)]; kernel_rfl) | (rw [if_neg (by decide +kernel)]; exact ⟨rfl, rfl⟩))
    (fun os started H enc _ => fnExactTileOk_lifted os started H enc)

theorem fnExactTileOk_holds : Rows.FnExactTileOkSaid := fnExactTileOk_over
#print axioms fnExactTileOk_holds
end Go.Proofs.Ythlgednppcapbaa
