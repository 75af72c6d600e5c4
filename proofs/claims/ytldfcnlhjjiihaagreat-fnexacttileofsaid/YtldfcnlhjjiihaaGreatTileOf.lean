/-
  PROVED: for every map and every tile TileOf answers as its model does; what was handed in stays as it was; the answer shares no memory with it nor with the answer of another call. No condition.
-/
import Derived.Test.YtldfcnlhjjiihaaGreatTileOfL
import Derived.Test.YtldfcnlhjjiihaaGreatKK
import Derived.Test.YtldfcnlhjjiihaaGreatTilO
namespace Go.Proofs.YtldfcnlhjjiihaaGreat
open Go.ChangeShapes Go.WideShapes Go.ChangeAt Go.RowKit Go.Joins

theorem fnExactTileOf_own : ownKnob Tryz.prog.godebug = none := by kernel_rfl
theorem fnExactTileOf_laidOut : laidOutB Tryz.prog = true := by kernel_rfl

set_option maxRecDepth 100000 in
theorem fnExactTileOf_lifted (os : Os) (started : os.Started) (H : Type) (enc : TypeId × Value → H) :
  ReturnsInHanded {} Tryz.checked os 3 .any (Rows.fnExactTileOfSpec.pre6 enc Tryz.prog Tryz.f3 Rows.fnExactTileOfRow.domain false) (Rows.fnExactTileOfSpec.post enc Tryz.prog Tryz.f3 false true false false) := by
 refine returnsInHanded_of_change (C := Tryz.checked) fnExactTileOf_own started (by kernel_rfl) Tryz.func3
  (ChangeSpec.witness6 (enc := enc) (C := Tryz.checked) false ⟨#[], #[.agg #[.slice none 0 0, .slice none 0 0, .slice none 0 0], .agg #[.int .i64 0, .int .i64 0, .int .i64 0]], []⟩ 8 (by kernel_rfl) (by kernel_rfl) (by kernel_rfl) (by kernel_rfl)) ?_
 intro W base args ds gs before hval0 hW hcnd _
 have hval : ∀ (j : Nat) t v, Tryz.f3.params[j]? = some t → args[j]? = some v → Value.okWide Tryz.prog W .any base t v := hval0
 have hW' := hW
 obtain ⟨p, q, hA0, hV, rfl, hfz, hnd⟩ := hW
 have hA : DataW.TrodAll enc Tryz.prog W 0 (fun _ => true) true Tryz.f3.params.toList args.toList ds p := hA0
 rw [Tryz.params3] at hA hval
 obtain ⟨v0, vs0, d0, ds0, p0, q0, hargs, rfl, rfl, h0, r0⟩ := trodAll_cons hA
 obtain ⟨v1, vs1, d1, ds1, p1, q1, rfl, rfl, rfl, h1, r1⟩ := trodAll_cons r0
 obtain ⟨rfl, rfl, rfl⟩ := trodAll_nil r1
 obtain rfl : args = #[v0, v1] := by cases args; simp_all
 obtain ⟨rfl, rfl⟩ := trodVars_none hV
 have k0 := h0
 have lt0 : ∀ x ∈ p0, x.block < W.heap.size := by obtain ⟨m, hm⟩ := k0; exact DataW.trod_lt m _ _ _ hm
 obtain ⟨g0, bs0, iv0, im0⟩ := open_map (hval 0 26 v0 rfl rfl) h0
 have k1 := h1
 have lt1 : ∀ x ∈ p1, x.block < W.heap.size := by obtain ⟨m, hm⟩ := k1; exact DataW.trod_lt m _ _ _ hm
 obtain ⟨z1, x1, y1, rfl⟩ := open_til (hval 1 28 v1 rfl rfl) h1
 clear hA0 hval0
 refine (lawFnExactTileOf_any v0 g0 bs0 z1 x1 y1 W iv0 im0).mono fun e W' ⟨he, bel0⟩ => ?_
 have bel := bel0.out
 subst he
 exact ⟨_, rfl, _, _, _, [], _, [], hW', trodAll_mk1 (shut_bool Tryz.underlying4 _), (trodAll_cons_mk (Below.trod fnExactTileOf_laidOut (by kernel_rfl) (of_decide_eq_true (by kernel_rfl)) k0 bel lt0) (trodAll_cons_mk (Below.trod fnExactTileOf_laidOut (by kernel_rfl) (of_decide_eq_true (by kernel_rfl)) k1 bel lt1) trodAll_mk0)), rfl, bel.frame _, fun h => by cases h⟩

theorem fnExactTileOf_j1 : (Rows.fnExactTileOfRow.inPlace == Tryz.prog.inPlace 3) = true := by kernel_rfl
theorem fnExactTileOf_j2 : (Rows.fnExactTileOfRow.unfollowed == Tryz.prog.unfollowed 3) = true := by kernel_rfl
theorem fnExactTileOf_j3 : (Rows.fnExactTileOfRow.recurses == Tryz.prog.recurses 3) = true := by kernel_rfl
theorem fnExactTileOf_j4 : (Rows.fnExactTileOfRow.named == Tryz.prog.varsNamed 3) = true := by kernel_rfl
theorem fnExactTileOf_closed : joinedFacts Tryz.prog 3 Tryz.f3 Rows.fnExactTileOfSpec Rows.fnExactTileOfRow = true := by
 unfold joinedFacts
 rw [fnExactTileOf_j1, fnExactTileOf_j2, fnExactTileOf_j3, fnExactTileOf_j4]
 kernel_rfl

theorem fnExactTileOf_over : Rows.fnExactTileOfRow.holds Tryz.pinned (OpenSpec.ofChange Rows.fnExactTileOfSpec) :=
 OpenClaim.holds_of_wide 3 Tryz.f3 rfl rfl rfl rfl rfl rfl rfl ⟨rfl, rfl, rfl, rfl, rfl⟩ rfl rfl rfl rfl rfl (by kernel_rfl) Tryz.func3 fnExactTileOf_closed
  (of_decide_eq_true (by kernel_rfl)) (by unfold Func.isWrapper; first | (rw [if_pos (by decide +kernel)]; kernel_rfl) | (rw [if_neg (by decide +kernel)]; exact ⟨rfl, rfl⟩))
  (fun os started H enc _ => fnExactTileOf_lifted os started H enc)

theorem fnExactTileOf_holds : Rows.FnExactTileOfSaid := fnExactTileOf_over
#print axioms fnExactTileOf_holds
end Go.Proofs.YtldfcnlhjjiihaaGreat
