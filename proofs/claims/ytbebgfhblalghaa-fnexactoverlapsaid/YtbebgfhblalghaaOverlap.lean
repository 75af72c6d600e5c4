/-
  PROVED: for every two labels Overlap answers as its model does. No condition.
-/
import Derived.Test.YtbebgfhblalghaaLblJ
import Derived.Test.YtbebgfhblalghaaLblO
import Derived.Test.YtbebgfhblalghaaDLabel
namespace Go.Proofs.Ytbebgfhblalghaa
open Go.ChangeShapes Go.WideShapes Go.ChangeAt Go.RowKit Go.Joins

/-- The world with two labels in boxes, as they were handed in. -/
def bxH (w : World) (d e : LblD) : World := (w.alloc (.cells #[.int .i64 d.id, .int .i64 d.x, .int .i64 d.y, .int .i64 d.wd, .int .i64 d.ht, .int .i64 d.rk] 32)).alloc (.cells #[.int .i64 e.id, .int .i64 e.x, .int .i64 e.y, .int .i64 e.wd, .int .i64 e.ht, .int .i64 e.rk] 32)
theorem bxH_bel (w : World) (d e : LblD) : Bel w (bxH w d e) := bel_alloc (bel_alloc (Bel.refl _) _) _
theorem bxH_cells (w : World) (d e : LblD) : ∀ w', Bel (bxH w d e) w' → (w'.cell? ⟨w.heap.size, 0, none⟩ = some (.int .i64 d.id) ∧ w'.cell? ⟨w.heap.size, 1, none⟩ = some (.int .i64 d.x) ∧ w'.cell? ⟨w.heap.size, 2, none⟩ = some (.int .i64 d.y) ∧ w'.cell? ⟨w.heap.size, 3, none⟩ = some (.int .i64 d.wd) ∧ w'.cell? ⟨w.heap.size, 4, none⟩ = some (.int .i64 d.ht) ∧ w'.cell? ⟨w.heap.size, 5, none⟩ = some (.int .i64 d.rk)) ∧
    (w'.cell? ⟨w.heap.size + 1, 0, none⟩ = some (.int .i64 e.id) ∧ w'.cell? ⟨w.heap.size + 1, 1, none⟩ = some (.int .i64 e.x) ∧ w'.cell? ⟨w.heap.size + 1, 2, none⟩ = some (.int .i64 e.y) ∧ w'.cell? ⟨w.heap.size + 1, 3, none⟩ = some (.int .i64 e.wd) ∧ w'.cell? ⟨w.heap.size + 1, 4, none⟩ = some (.int .i64 e.ht) ∧ w'.cell? ⟨w.heap.size + 1, 5, none⟩ = some (.int .i64 e.rk)) := fun w' h => by
  have A : Blk w' w.heap.size (lblCs d) := ((Blk.new w (lblCs d) 32).bel (bel_alloc (Bel.refl _) (.cells #[.int .i64 e.id, .int .i64 e.x, .int .i64 e.y, .int .i64 e.wd, .int .i64 e.ht, .int .i64 e.rk] 32))).bel h
  have B : Blk w' (w.heap.size + 1) (lblCs e) := (Blk.new1 w (.cells #[.int .i64 d.id, .int .i64 d.x, .int .i64 d.y, .int .i64 d.wd, .int .i64 d.ht, .int .i64 d.rk] 32) (lblCs e) 32).bel h
  exact ⟨⟨A.cell 0 (by simp [lblCs]), A.cell 1 (by simp [lblCs]), A.cell 2 (by simp [lblCs]), A.cell 3 (by simp [lblCs]), A.cell 4 (by simp [lblCs]), A.cell 5 (by simp [lblCs])⟩, B.cell 0 (by simp [lblCs]), B.cell 1 (by simp [lblCs]), B.cell 2 (by simp [lblCs]), B.cell 3 (by simp [lblCs]), B.cell 4 (by simp [lblCs]), B.cell 5 (by simp [lblCs])⟩

set_option maxRecDepth 100000 in
set_option maxHeartbeats 2000000 in
theorem lawFnExactOverlap_any (d e : LblD) (w : World) :
    Calls Try.prog 4 #[lbv d, lbv e] w fun r w' => r = .returned (.bool true) ∧ Bel w w' := by
  have hR := bxH_cells w d e
  have g0 : Bel (bxH w d e) (bxH w d e) := Bel.refl _
  have hB := bxH_bel w d e
  obtain ⟨r, Hr⟩ : ∃ r, Hid (ovQ d e = r) := ⟨_, (rfl : ovQ d e = _)⟩
  have cS := fun W : World => specOverlap_any d e W
  have cI := fun W : World => overlap_any d e W
  rw [Hr.out] at cS cI
  go_enter Try.func4, Try.ntmps4
  go_wp2
  refine wp_region_noPanic ?_
  refine wp_region_held_drew (S := fun w' => Bel (bxH w d e) w') (by kernel_rfl) (Bel.drew g0) (fun hHeld => ?_)
  refine wpAnyH_take (i := 0) (oi := { dst := some 7, op := Go.Op.load 32 (Go.Operand.tmp 2), type := 32, pos := "exact.go:5327", after := #[], guard := none }) (v := ?vab0) rfl (by kernel_rfl) (by kernel_rfl) (by kernel_rfl) (fun _ _ _ h => h) (Or.inl ⟨by rfl, ?hab0⟩) hHeld ?rab0
  case hab0 => (intro w hSw; (try dsimp only at hSw); go_simp; try with_reducible rfl)
  try simp only [Act.put, List.setIfInBounds_toArray, List.set_cons_zero, List.set_cons_succ]
  refine wpAnyH_take (i := 2) (oi := { dst := some 9, op := Go.Op.load 32 (Go.Operand.tmp 3), type := 32, pos := "exact.go:5327", after := #[], guard := none }) (v := ?vab2) rfl (by kernel_rfl) (by kernel_rfl) (by kernel_rfl) (fun _ _ _ h => h) (Or.inl ⟨by rfl, ?hab2⟩) hHeld ?rab2
  case hab2 => (intro w hSw; (try dsimp only at hSw); go_simp; try with_reducible rfl)
  try simp only [Act.put, List.setIfInBounds_toArray, List.set_cons_zero, List.set_cons_succ]
  refine wpAnyH_ready (rs := [1]) (by kernel_rfl) (by simp) ?_
  refine AllReadyH.cons (o := { dst := some 8, op := Go.Op.call { callee := Go.Callee.value (Go.Operand.func 20), args := #[Go.Operand.tmp 7], argTypes := #[32] }, type := 36, pos := "exact.go:5327", after := #[{ on := 0, ground := Go.Ground.data }], guard := none }) rfl (fun K hK => ?_) AllReadyH.nil
  go_simp
  refine (toLabel_any d.id d.x d.y d.wd d.ht d.rk _).mono ?_
  rintro e w1 ⟨rfl, hbk⟩
  go_wp2_with fail
  refine hK.out _ _ (bel_step hHeld hbk) (fun hHeld' => ?_)
  clear hK K hHeld
  have hHeld := hHeld'
  clear hHeld'
  try simp only [Act.put, List.setIfInBounds_toArray, List.set_cons_zero, List.set_cons_succ]
  refine wpAnyH_ready (rs := [3]) (by kernel_rfl) (by simp) ?_
  refine AllReadyH.cons (o := { dst := some 10, op := Go.Op.call { callee := Go.Callee.value (Go.Operand.func 20), args := #[Go.Operand.tmp 9], argTypes := #[32] }, type := 36, pos := "exact.go:5327", after := #[{ on := 2, ground := Go.Ground.data }, { on := 1, ground := Go.Ground.chain }], guard := none }) rfl (fun K hK => ?_) AllReadyH.nil
  go_simp
  refine (toLabel_any e.id e.x e.y e.wd e.ht e.rk _).mono ?_
  rintro e w2 ⟨rfl, hbk⟩
  go_wp2_with fail
  refine hK.out _ _ (bel_step hHeld hbk) (fun hHeld' => ?_)
  clear hK K hHeld
  have hHeld := hHeld'
  clear hHeld'
  try simp only [Act.put, List.setIfInBounds_toArray, List.set_cons_zero, List.set_cons_succ]
  refine wpAnyH_ready (rs := [4]) (by kernel_rfl) (by simp) ?_
  refine AllReadyH.cons (o := { dst := some 11, op := Go.Op.call { callee := Go.Callee.value (Go.Operand.func 19), args := #[Go.Operand.tmp 8, Go.Operand.tmp 10], argTypes := #[36, 36] }, type := 4, pos := "exact.go:5327", after := #[{ on := 1, ground := Go.Ground.data }, { on := 3, ground := Go.Ground.data }, { on := 3, ground := Go.Ground.chain }], guard := none }) rfl (fun K hK => ?_) AllReadyH.nil
  go_simp
  refine (cS _).mono ?_
  rintro e w3 ⟨rfl, hbk⟩
  go_wp2_with fail
  refine hK.out _ _ (bel_step hHeld hbk) (fun hHeld' => ?_)
  clear hK K hHeld
  have hHeld := hHeld'
  clear hHeld'
  try simp only [Act.put, List.setIfInBounds_toArray, List.set_cons_zero, List.set_cons_succ]
  refine wpAnyH_take (i := 5) (oi := { dst := some 5, op := Go.Op.assign (Go.Operand.tmp 11), type := 4, pos := "exact.go:5327", after := #[{ on := 4, ground := Go.Ground.data }, { on := 4, ground := Go.Ground.chain }, { on := 0, ground := Go.Ground.phase }, { on := 1, ground := Go.Ground.phase }, { on := 2, ground := Go.Ground.phase }, { on := 3, ground := Go.Ground.phase }, { on := 4, ground := Go.Ground.phase }], guard := none }) (v := ?vab5) rfl (by kernel_rfl) (by kernel_rfl) (by kernel_rfl) (fun _ _ _ h => h) (Or.inl ⟨by rfl, ?hab5⟩) hHeld ?rab5
  case hab5 => (intro w hSw; (try dsimp only at hSw); go_simp; try with_reducible rfl)
  try simp only [Act.put, List.setIfInBounds_toArray, List.set_cons_zero, List.set_cons_succ]
  refine wpAnyH_done (by kernel_rfl) ?_ _
  refine NoPanic.normal ?_
  have g3 : Bel (bxH w d e) w3 := hHeld
  clear hbk
  go_wp2
  refine wp_region_noPanic ?_
  refine wp_region_held_drew (S := fun w' => Bel (bxH w d e) w') (by kernel_rfl) (Bel.drew g3) (fun hHeld => ?_)
  refine wpAnyH_take (i := 0) (oi := { dst := some 12, op := Go.Op.load 32 (Go.Operand.tmp 2), type := 32, pos := "exact.go:5328", after := #[], guard := none }) (v := ?vac0) rfl (by kernel_rfl) (by kernel_rfl) (by kernel_rfl) (fun _ _ _ h => h) (Or.inl ⟨by rfl, ?hac0⟩) hHeld ?rac0
  case hac0 => (intro w hSw; (try dsimp only at hSw); go_simp; try with_reducible rfl)
  try simp only [Act.put, List.setIfInBounds_toArray, List.set_cons_zero, List.set_cons_succ]
  refine wpAnyH_take (i := 2) (oi := { dst := some 14, op := Go.Op.load 32 (Go.Operand.tmp 3), type := 32, pos := "exact.go:5328", after := #[], guard := none }) (v := ?vac2) rfl (by kernel_rfl) (by kernel_rfl) (by kernel_rfl) (fun _ _ _ h => h) (Or.inl ⟨by rfl, ?hac2⟩) hHeld ?rac2
  case hac2 => (intro w hSw; (try dsimp only at hSw); go_simp; try with_reducible rfl)
  try simp only [Act.put, List.setIfInBounds_toArray, List.set_cons_zero, List.set_cons_succ]
  refine wpAnyH_ready (rs := [1]) (by kernel_rfl) (by simp) ?_
  refine AllReadyH.cons (o := { dst := some 13, op := Go.Op.call { callee := Go.Callee.value (Go.Operand.func 20), args := #[Go.Operand.tmp 12], argTypes := #[32] }, type := 36, pos := "exact.go:5328", after := #[{ on := 0, ground := Go.Ground.data }], guard := none }) rfl (fun K hK => ?_) AllReadyH.nil
  go_simp
  refine (toLabel_any d.id d.x d.y d.wd d.ht d.rk _).mono ?_
  rintro e w4 ⟨rfl, hbk⟩
  go_wp2_with fail
  refine hK.out _ _ (bel_step hHeld hbk) (fun hHeld' => ?_)
  clear hK K hHeld
  have hHeld := hHeld'
  clear hHeld'
  try simp only [Act.put, List.setIfInBounds_toArray, List.set_cons_zero, List.set_cons_succ]
  refine wpAnyH_ready (rs := [3]) (by kernel_rfl) (by simp) ?_
  refine AllReadyH.cons (o := { dst := some 15, op := Go.Op.call { callee := Go.Callee.value (Go.Operand.func 20), args := #[Go.Operand.tmp 14], argTypes := #[32] }, type := 36, pos := "exact.go:5328", after := #[{ on := 2, ground := Go.Ground.data }, { on := 1, ground := Go.Ground.chain }], guard := none }) rfl (fun K hK => ?_) AllReadyH.nil
  go_simp
  refine (toLabel_any e.id e.x e.y e.wd e.ht e.rk _).mono ?_
  rintro e w5 ⟨rfl, hbk⟩
  go_wp2_with fail
  refine hK.out _ _ (bel_step hHeld hbk) (fun hHeld' => ?_)
  clear hK K hHeld
  have hHeld := hHeld'
  clear hHeld'
  try simp only [Act.put, List.setIfInBounds_toArray, List.set_cons_zero, List.set_cons_succ]
  refine wpAnyH_ready (rs := [4]) (by kernel_rfl) (by simp) ?_
  refine AllReadyH.cons (o := { dst := some 16, op := Go.Op.call { callee := Go.Callee.value (Go.Operand.func 21), args := #[Go.Operand.tmp 13, Go.Operand.tmp 15], argTypes := #[36, 36] }, type := 4, pos := "exact.go:5328", after := #[{ on := 1, ground := Go.Ground.data }, { on := 3, ground := Go.Ground.data }, { on := 3, ground := Go.Ground.chain }], guard := none }) rfl (fun K hK => ?_) AllReadyH.nil
  go_simp
  refine (cI _).mono ?_
  rintro e w6 ⟨rfl, hbk⟩
  go_wp2_with fail
  refine hK.out _ _ (bel_step hHeld hbk) (fun hHeld' => ?_)
  clear hK K hHeld
  have hHeld := hHeld'
  clear hHeld'
  try simp only [Act.put, List.setIfInBounds_toArray, List.set_cons_zero, List.set_cons_succ]
  refine wpAnyH_take (i := 5) (oi := { dst := some 6, op := Go.Op.assign (Go.Operand.tmp 16), type := 4, pos := "exact.go:5328", after := #[{ on := 4, ground := Go.Ground.data }, { on := 4, ground := Go.Ground.chain }, { on := 0, ground := Go.Ground.phase }, { on := 1, ground := Go.Ground.phase }, { on := 2, ground := Go.Ground.phase }, { on := 3, ground := Go.Ground.phase }, { on := 4, ground := Go.Ground.phase }], guard := none }) (v := ?vac5) rfl (by kernel_rfl) (by kernel_rfl) (by kernel_rfl) (fun _ _ _ h => h) (Or.inl ⟨by rfl, ?hac5⟩) hHeld ?rac5
  case hac5 => (intro w hSw; (try dsimp only at hSw); go_simp; try with_reducible rfl)
  try simp only [Act.put, List.setIfInBounds_toArray, List.set_cons_zero, List.set_cons_succ]
  refine wpAnyH_done (by kernel_rfl) ?_ _
  refine NoPanic.normal ?_
  have g6 : Bel w w6 := bel_step hB hHeld
  clear hbk
  cases r
  all_goals (
    go_wp2
    go_ret
    exact ⟨rfl, g6⟩)

theorem fnExactOverlap_own : ownKnob Try.prog.godebug = none := by kernel_rfl
theorem fnExactOverlap_laidOut : laidOutB Try.prog = true := by kernel_rfl

set_option maxRecDepth 100000 in
theorem fnExactOverlap_lifted (os : Os) (started : os.Started) (H : Type) (enc : TypeId × Value → H) :
    ReturnsInHanded {} Try.checked os 4 .any (Rows.fnExactOverlapSpec.pre6 enc Try.prog Try.f4 Rows.fnExactOverlapRow.domain false) (Rows.fnExactOverlapSpec.post enc Try.prog Try.f4 false true false false) := by
  refine returnsInHanded_of_change (C := Try.checked) fnExactOverlap_own started (by kernel_rfl) Try.func4
    (ChangeSpec.witness6 (enc := enc) (C := Try.checked) false ⟨#[], #[.agg #[.int .i64 0, .int .i64 0, .int .i64 0, .int .i64 0, .int .i64 0, .int .i64 0], .agg #[.int .i64 0, .int .i64 0, .int .i64 0, .int .i64 0, .int .i64 0, .int .i64 0]], []⟩ 8 (by kernel_rfl) (by kernel_rfl) (by kernel_rfl) (by kernel_rfl)) ?_
  intro W base args ds gs before hval0 hW hcnd _
  have hval : ∀ (j : Nat) t v, Try.f4.params[j]? = some t → args[j]? = some v → Value.okWide Try.prog W .any base t v := hval0
  have hW' := hW
  obtain ⟨p, q, hA0, hV, rfl, hfz, hnd⟩ := hW
  have hA : DataW.TrodAll enc Try.prog W 0 (fun _ => true) true Try.f4.params.toList args.toList ds p := hA0
  rw [Try.params4] at hA hval
  obtain ⟨v0, vs0, d0, ds0, p0, q0, hargs, rfl, rfl, h0, r0⟩ := trodAll_cons hA
  obtain ⟨v1, vs1, d1, ds1, p1, q1, rfl, rfl, rfl, h1, r1⟩ := trodAll_cons r0
  obtain ⟨rfl, rfl, rfl⟩ := trodAll_nil r1
  obtain rfl : args = #[v0, v1] := by cases args; simp_all
  obtain ⟨rfl, rfl⟩ := trodVars_none hV
  have k0 := h0
  have lt0 : ∀ x ∈ p0, x.block < W.heap.size := by obtain ⟨m, hm⟩ := k0; exact DataW.trod_lt m _ _ _ hm
  obtain ⟨q0, rfl, _⟩ := open_lbl (hval 0 32 v0 rfl rfl) h0
  have k1 := h1
  have lt1 : ∀ x ∈ p1, x.block < W.heap.size := by obtain ⟨m, hm⟩ := k1; exact DataW.trod_lt m _ _ _ hm
  obtain ⟨q1, rfl, _⟩ := open_lbl (hval 1 32 v1 rfl rfl) h1
  clear hA0 hval0
  refine (lawFnExactOverlap_any q0 q1 W ).mono fun e W' ⟨he, bel0⟩ => ?_
  have bel := bel0.out
  subst he
  exact ⟨_, rfl, _, _, _, [], _, [], hW', trodAll_mk1 (shut_bool Try.underlying4 _), (trodAll_cons_mk (Below.trod fnExactOverlap_laidOut (by kernel_rfl) (of_decide_eq_true (by kernel_rfl)) k0 bel lt0) (trodAll_cons_mk (Below.trod fnExactOverlap_laidOut (by kernel_rfl) (of_decide_eq_true (by kernel_rfl)) k1 bel lt1) trodAll_mk0)), rfl, bel.frame _, fun h => by cases h⟩

theorem fnExactOverlap_over : Rows.fnExactOverlapRow.holds Try.pinned (OpenSpec.ofChange Rows.fnExactOverlapSpec) :=
  OpenClaim.holds_of_wide 4 Try.f4 rfl rfl rfl rfl rfl rfl rfl ⟨rfl, rfl, rfl, rfl, rfl⟩ rfl rfl rfl rfl rfl (by kernel_rfl) Try.func4 (by kernel_rfl)
    (of_decide_eq_true (by kernel_rfl)) (by unfold Func.isWrapper; first | (rw [if_pos (by decide +kernel)]; kernel_rfl) | (rw [if_neg (by decide +kernel)]; exact ⟨rfl, rfl⟩))
    (fun os started H enc _ => fnExactOverlap_lifted os started H enc)

theorem fnExactOverlap_holds : Rows.FnExactOverlapSaid := fnExactOverlap_over
#print axioms fnExactOverlap_holds
end Go.Proofs.Ytbebgfhblalghaa

