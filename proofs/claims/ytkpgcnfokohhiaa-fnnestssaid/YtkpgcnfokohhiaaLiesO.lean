/-
  Contract of what tells whether a point lies on a stretch, in the program.
-/
import Derived.Test.YtkpgcnfokohhiaaRngC
namespace Go.Proofs.Ytkpgcnfokohhiaa
open Go.RowKit

set_option maxRecDepth 100000 in
set_option maxHeartbeats 1000000 in
theorem liesOn_any (x0 y0 x1 y1 x2 y2 : Int) (w : World) (a : POk x0 y0) (b : POk x1 y1) (c : POk x2 y2) :
    Calls Try.prog 22 #[pt x0 y0, pt x1 y1, pt x2 y2] w fun e w' => e = .returned (.bool (onB x0 y0 x1 y1 x2 y2)) ∧ Bel w w' := by
  have hR := bx3_cells 26 w x0 y0 x1 y1 x2 y2
  have g0 : Bel (bx3 26 w x0 y0 x1 y1 x2 y2) (bx3 26 w x0 y0 x1 y1 x2 y2) := Bel.refl _
  cases hr : hldB (min x0 x1) (min y0 y1) (max x0 x1) (max y0 y1) x2 y2
  · have HN : ∀ W : World, Calls Try.prog 34 #[.agg #[.int .i64 (min x0 x1), .int .i64 (min y0 y1), .int .i64 (max x0 x1), .int .i64 (max y0 y1)], pt x2 y2] W fun e w' => e = .returned (.bool false) ∧ Bel W w' := fun W => by
      rw [← hr]; exact hold_any _ _ _ _ _ _ _
    have HO : onB x0 y0 x1 y1 x2 y2 = false := by rw [on_hld, hr]; rfl
    rw [HO]
    clear HO hr
    go_enter Try.func22, Try.ntmps22
    go_wp2
    refine wp_region_noPanic ?_
    refine wp_region_held_drew (S := fun w' => Bel (bx3 26 w x0 y0 x1 y1 x2 y2) w') (by kernel_rfl) (Bel.drew g0) (fun hHeld => ?_)
    refine wpAnyH_take (i := 0) (oi := { dst := some 7, op := Go.Op.load 26 (Go.Operand.tmp 3), type := 26, pos := "l04_rings.go:212", after := #[], guard := none }) (v := ?vab0) rfl (by kernel_rfl) (by kernel_rfl) (by kernel_rfl) (fun _ _ _ h => h) (Or.inl ⟨by rfl, ?hab0⟩) hHeld ?rab0
    case hab0 => (intro w hSw; (try dsimp only at hSw); go_simp; try with_reducible rfl)
    try simp only [Act.put, List.setIfInBounds_toArray, List.set_cons_zero, List.set_cons_succ]
    refine wpAnyH_take (i := 1) (oi := { dst := some 8, op := Go.Op.load 26 (Go.Operand.tmp 4), type := 26, pos := "l04_rings.go:212", after := #[], guard := none }) (v := ?vab1) rfl (by kernel_rfl) (by kernel_rfl) (by kernel_rfl) (fun _ _ _ h => h) (Or.inl ⟨by rfl, ?hab1⟩) hHeld ?rab1
    case hab1 => (intro w hSw; (try dsimp only at hSw); go_simp; try with_reducible rfl)
    try simp only [Act.put, List.setIfInBounds_toArray, List.set_cons_zero, List.set_cons_succ]
    refine wpAnyH_take (i := 3) (oi := { dst := some 10, op := Go.Op.load 26 (Go.Operand.tmp 5), type := 26, pos := "l04_rings.go:212", after := #[], guard := none }) (v := ?vab3) rfl (by kernel_rfl) (by kernel_rfl) (by kernel_rfl) (fun _ _ _ h => h) (Or.inl ⟨by rfl, ?hab3⟩) hHeld ?rab3
    case hab3 => (intro w hSw; (try dsimp only at hSw); go_simp; try with_reducible rfl)
    try simp only [Act.put, List.setIfInBounds_toArray, List.set_cons_zero, List.set_cons_succ]
    refine wpAnyH_ready (rs := [2]) (by kernel_rfl) (by simp) ?_
    refine AllReadyH.cons (o := { dst := some 9, op := Go.Op.call { callee := Go.Callee.value (Go.Operand.func 33), args := #[Go.Operand.tmp 7, Go.Operand.tmp 8], argTypes := #[26, 26] }, type := 59, pos := "l04_rings.go:212", after := #[{ on := 0, ground := Go.Ground.data }, { on := 1, ground := Go.Ground.data }], guard := none }) rfl (fun K hK => ?_) AllReadyH.nil
    go_simp
    refine (boxOf_any _ _ _ _ _).mono ?_
    rintro e w1 ⟨rfl, hbk⟩
    go_wp2_with fail
    refine hK.out _ _ (bel_step hHeld hbk) (fun hHeld' => ?_)
    clear hK K hHeld
    have hHeld := hHeld'
    clear hHeld'
    try simp only [Act.put, List.setIfInBounds_toArray, List.set_cons_zero, List.set_cons_succ]
    refine wpAnyH_ready (rs := [4]) (by kernel_rfl) (by simp) ?_
    refine AllReadyH.cons (o := { dst := some 11, op := Go.Op.call { callee := Go.Callee.value (Go.Operand.func 34), args := #[Go.Operand.tmp 9, Go.Operand.tmp 10], argTypes := #[59, 26] }, type := 4, pos := "l04_rings.go:212", after := #[{ on := 2, ground := Go.Ground.data }, { on := 3, ground := Go.Ground.data }, { on := 2, ground := Go.Ground.chain }], guard := none }) rfl (fun K hK => ?_) AllReadyH.nil
    go_simp
    refine (HN _).mono ?_
    rintro e w2 ⟨rfl, hbk⟩
    go_wp2_with fail
    refine hK.out _ _ (bel_step hHeld hbk) (fun hHeld' => ?_)
    clear hK K hHeld
    have hHeld := hHeld'
    clear hHeld'
    try simp only [Act.put, List.setIfInBounds_toArray, List.set_cons_zero, List.set_cons_succ]
    refine wpAnyH_take (i := 5) (oi := { dst := some 12, op := Go.Op.move (Go.Operand.tmp 11), type := 4, pos := "l04_rings.go:212", after := #[{ on := 4, ground := Go.Ground.data }, { on := 4, ground := Go.Ground.chain }], guard := none }) (v := ?vab5) rfl (by kernel_rfl) (by kernel_rfl) (by kernel_rfl) (fun _ _ _ h => h) (Or.inl ⟨by rfl, ?hab5⟩) hHeld ?rab5
    case hab5 => (intro w hSw; (try dsimp only at hSw); go_simp; try with_reducible rfl)
    try simp only [Act.put, List.setIfInBounds_toArray, List.set_cons_zero, List.set_cons_succ]
    refine wpAnyH_take (i := 6) (oi := { dst := some 13, op := Go.Op.load 26 (Go.Operand.tmp 3), type := 26, pos := "l04_rings.go:212", after := #[{ on := 5, ground := Go.Ground.guard }], guard := some (5, true) }) (v := undef) rfl (by kernel_rfl) (by kernel_rfl) (by kernel_rfl) (fun _ _ _ h => h) (Or.inr ⟨by rfl, rfl⟩) hHeld ?_
    try simp only [Act.put, List.setIfInBounds_toArray, List.set_cons_zero, List.set_cons_succ]
    refine wpAnyH_take (i := 7) (oi := { dst := some 14, op := Go.Op.load 26 (Go.Operand.tmp 4), type := 26, pos := "l04_rings.go:212", after := #[{ on := 5, ground := Go.Ground.guard }], guard := some (5, true) }) (v := undef) rfl (by kernel_rfl) (by kernel_rfl) (by kernel_rfl) (fun _ _ _ h => h) (Or.inr ⟨by rfl, rfl⟩) hHeld ?_
    try simp only [Act.put, List.setIfInBounds_toArray, List.set_cons_zero, List.set_cons_succ]
    refine wpAnyH_take (i := 8) (oi := { dst := some 15, op := Go.Op.load 26 (Go.Operand.tmp 5), type := 26, pos := "l04_rings.go:212", after := #[{ on := 5, ground := Go.Ground.guard }], guard := some (5, true) }) (v := undef) rfl (by kernel_rfl) (by kernel_rfl) (by kernel_rfl) (fun _ _ _ h => h) (Or.inr ⟨by rfl, rfl⟩) hHeld ?_
    try simp only [Act.put, List.setIfInBounds_toArray, List.set_cons_zero, List.set_cons_succ]
    refine wpAnyH_take (i := 9) (oi := { dst := some 16, op := Go.Op.call { callee := Go.Callee.value (Go.Operand.func 35), args := #[Go.Operand.tmp 13, Go.Operand.tmp 14, Go.Operand.tmp 15], argTypes := #[26, 26, 26] }, type := 2, pos := "l04_rings.go:212", after := #[{ on := 6, ground := Go.Ground.data }, { on := 7, ground := Go.Ground.data }, { on := 8, ground := Go.Ground.data }, { on := 5, ground := Go.Ground.chain }, { on := 5, ground := Go.Ground.guard }], guard := some (5, true) }) (v := undef) rfl (by kernel_rfl) (by kernel_rfl) (by kernel_rfl) (fun _ _ _ h => h) (Or.inr ⟨by rfl, rfl⟩) hHeld ?_
    try simp only [Act.put, List.setIfInBounds_toArray, List.set_cons_zero, List.set_cons_succ]
    refine wpAnyH_take (i := 10) (oi := { dst := some 17, op := Go.Op.binOp Go.BinOp.eql 2 (Go.Operand.tmp 16) (Go.Operand.const (Go.Value.int Go.IntKind.i64 0)) 2, type := 4, pos := "l04_rings.go:212", after := #[{ on := 9, ground := Go.Ground.data }, { on := 5, ground := Go.Ground.guard }], guard := some (5, true) }) (v := undef) rfl (by kernel_rfl) (by kernel_rfl) (by kernel_rfl) (fun _ _ _ h => h) (Or.inr ⟨by rfl, rfl⟩) hHeld ?_
    try simp only [Act.put, List.setIfInBounds_toArray, List.set_cons_zero, List.set_cons_succ]
    refine wpAnyH_take (i := 11) (oi := { dst := some 18, op := Go.Op.pick (Go.Operand.tmp 12) (Go.Operand.tmp 17) (Go.Operand.const (Go.Value.bool false)), type := 4, pos := "l04_rings.go:212", after := #[{ on := 5, ground := Go.Ground.data }, { on := 10, ground := Go.Ground.data }], guard := none }) (v := ?vab11) rfl (by kernel_rfl) (by kernel_rfl) (by kernel_rfl) (fun _ _ _ h => h) (Or.inl ⟨by rfl, ?hab11⟩) hHeld ?rab11
    case hab11 => (intro w hSw; (try dsimp only at hSw); go_simp; try with_reducible rfl)
    try simp only [Act.put, List.setIfInBounds_toArray, List.set_cons_zero, List.set_cons_succ]
    refine wpAnyH_take (i := 12) (oi := { dst := some 6, op := Go.Op.assign (Go.Operand.tmp 18), type := 4, pos := "l04_rings.go:212", after := #[{ on := 11, ground := Go.Ground.data }, { on := 9, ground := Go.Ground.chain }, { on := 0, ground := Go.Ground.phase }, { on := 1, ground := Go.Ground.phase }, { on := 2, ground := Go.Ground.phase }, { on := 3, ground := Go.Ground.phase }, { on := 4, ground := Go.Ground.phase }, { on := 5, ground := Go.Ground.phase }, { on := 6, ground := Go.Ground.phase }, { on := 7, ground := Go.Ground.phase }, { on := 8, ground := Go.Ground.phase }, { on := 9, ground := Go.Ground.phase }, { on := 10, ground := Go.Ground.phase }, { on := 11, ground := Go.Ground.phase }], guard := none }) (v := ?vab12) rfl (by kernel_rfl) (by kernel_rfl) (by kernel_rfl) (fun _ _ _ h => h) (Or.inl ⟨by rfl, ?hab12⟩) hHeld ?rab12
    case hab12 => (intro w hSw; (try dsimp only at hSw); go_simp; try with_reducible rfl)
    try simp only [Act.put, List.setIfInBounds_toArray, List.set_cons_zero, List.set_cons_succ]
    refine wpAnyH_done (by kernel_rfl) ?_ _
    refine NoPanic.normal ?_
    go_wp2
    go_ret
    exact ⟨rfl, bel_step (bx3_bel 26 w x0 y0 x1 y1 x2 y2) hHeld⟩
  · have HN : ∀ W : World, Calls Try.prog 34 #[.agg #[.int .i64 (min x0 x1), .int .i64 (min y0 y1), .int .i64 (max x0 x1), .int .i64 (max y0 y1)], pt x2 y2] W fun e w' => e = .returned (.bool true) ∧ Bel W w' := fun W => by
      rw [← hr]; exact hold_any _ _ _ _ _ _ _
    obtain ⟨s, Hs⟩ : ∃ s, Hid (sgn (trn x0 y0 x1 y1 x2 y2) = s) := ⟨_, (rfl : sgn (trn x0 y0 x1 y1 x2 y2) = _)⟩
    have HO : onB x0 y0 x1 y1 x2 y2 = decide (s = 0) := by rw [on_hld, hr, Hs.out]; rfl
    rw [HO]
    clear HO hr
    go_enter Try.func22, Try.ntmps22
    go_wp2
    go_region_held3 (fun w' => Bel (bx3 26 w x0 y0 x1 y1 x2 y2) w') (repeat (first | exact g0 | refine Bel.drew ?_ | assumption | refine bel_then (by assumption) ?_))
      (first
        | (go_at_call 33; refine (boxOf_any _ _ _ _ _).mono ?_; rintro e w1 ⟨rfl, hb1⟩)
        | (go_at_call 34; refine (HN _).mono ?_; rintro e w2 ⟨rfl, hb2⟩)
        | (go_at_call 35; refine (turnR _ _ _ _ _ _ _ a b c).mono ?_; rintro e w3 ⟨rfl, hb3⟩; rw [Hs.out]))
    all_goals
      go_wp2
      go_ret
      exact ⟨ret_bool (by rw [Bool.eq_iff_iff]; simp), bel_step (bx3_bel 26 w x0 y0 x1 y1 x2 y2) (by assumption)⟩
end Go.Proofs.Ytkpgcnfokohhiaa

