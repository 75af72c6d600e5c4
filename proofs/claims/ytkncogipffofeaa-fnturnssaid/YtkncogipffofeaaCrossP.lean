/-
  Contract of Cross, the program's own: for every four points.
-/
import Derived.Test.YtkncogipffofeaaCrossC
namespace Go.Proofs.Ytkncogipffofeaa
open Go.RowKit

set_option maxHeartbeats 8000000 in
theorem cross_any (x0 y0 x1 y1 x2 y2 x3 y3 : Int) (w : World) :
    Calls Try.prog 9 #[pt x0 y0, pt x1 y1, pt x2 y2, pt x3 y3] w fun e w' => e = .returned (.bool (crossOf x0 y0 x1 y1 x2 y2 x3 y3)) ∧ Bel w w' := by
  obtain ⟨m0, m1⟩ := sgn_mul_bd (trn x0 y0 x1 y1 x2 y2) (trn x0 y0 x1 y1 x3 y3)
  obtain ⟨n0, n1⟩ := sgn_mul_bd (trn x2 y2 x3 y3 x0 y0) (trn x2 y2 x3 y3 x1 y1)
  have hw1 := wrap_sgn (trn x0 y0 x1 y1 x2 y2) (trn x0 y0 x1 y1 x3 y3)
  have hw2 := wrap_sgn (trn x2 y2 x3 y3 x0 y0) (trn x2 y2 x3 y3 x1 y1)
  by_cases h0 : pok x0 y0 = true
  · skip
    by_cases h1 : pok x1 y1 = true
    · skip
      by_cases h2 : pok x2 y2 = true
      · skip
        by_cases h3 : pok x3 y3 = true
        · skip
          have hd : crossOf x0 y0 x1 y1 x2 y2 x3 y3 = crI x0 y0 x1 y1 x2 y2 x3 y3 := by rw [crS_eq]; simp [crossOf, h0, h1, h2, h3]
          rw [hd]; clear hd
          have a := pOk_iff.1 h0
          have b := pOk_iff.1 h1
          have c := pOk_iff.1 h2
          have d := pOk_iff.1 h3
          by_cases hm : boxB (min x0 x1) (min y0 y1) (max x0 x1) (max y0 y1) (min x2 x3) (min y2 y3) (max x2 x3) (max y2 y3) = true
          · by_cases p : sgn (trn x0 y0 x1 y1 x2 y2) * sgn (trn x0 y0 x1 y1 x3 y3) ≤ 0
            · have p' : decide (sgn (trn x0 y0 x1 y1 x2 y2) * sgn (trn x0 y0 x1 y1 x3 y3) ≤ 0) = true := by simpa using p
              have hv : crI x0 y0 x1 y1 x2 y2 x3 y3 = decide (sgn (trn x2 y2 x3 y3 x0 y0) * sgn (trn x2 y2 x3 y3 x1 y1) ≤ 0) := by simp [crI, hm, p]
              rw [hv]; clear hv p
              have hR := bx4_cells 25 w x0 y0 x1 y1 x2 y2 x3 y3
              go_enter Try.func9, Try.ntmps9
              go_wp2_with fail
              refine (pointOk_any _ _ _).mono ?_
              rintro e w1 ⟨rfl, hb1⟩
              have g1 : Bel (bx4 25 w x0 y0 x1 y1 x2 y2 x3 y3) w1 := hb1
              clear hb1
              go_wp2_with fail
              refine (pointOk_any _ _ _).mono ?_
              rintro e w2 ⟨rfl, hb2⟩
              have g2 : Bel (bx4 25 w x0 y0 x1 y1 x2 y2 x3 y3) w2 := bel_step g1 hb2
              clear hb2
              clear g1
              go_wp2_with fail
              refine (pointOk_any _ _ _).mono ?_
              rintro e w3 ⟨rfl, hb3⟩
              have g3 : Bel (bx4 25 w x0 y0 x1 y1 x2 y2 x3 y3) w3 := bel_step g2 hb3
              clear hb3
              clear g2
              go_wp2_with fail
              refine (pointOk_any _ _ _).mono ?_
              rintro e w4 ⟨rfl, hb4⟩
              have g4 : Bel (bx4 25 w x0 y0 x1 y1 x2 y2 x3 y3) w4 := bel_step g3 hb4
              clear hb4
              clear g3
              go_wp2
              go_region_held3 (fun w' => Bel (bx4 25 w x0 y0 x1 y1 x2 y2 x3 y3) w') (repeat (first | exact g4 | refine Bel.drew ?_ | assumption | refine bel_then (by assumption) ?_))
                (first
                  | (go_at_call 18; refine (boxOf_any _ _ _ _ _).mono ?_; rintro e w' ⟨rfl, hbk⟩)
                  | (go_at_call 17; refine (boxesMeet_any _ _ _ _ _ _ _ _ _).mono ?_; rintro e w' ⟨rfl, hbk⟩)
                  | (go_at_call 6; refine (turn_ok _ _ _ _ _ _ _ (by assumption) (by assumption) (by assumption)).mono ?_; rintro e w' ⟨rfl, hbk⟩))
              have hH : Bel (bx4 25 w x0 y0 x1 y1 x2 y2 x3 y3) w' := by assumption
              go_wp2
              go_ret
              exact ⟨rfl, bel_step (bx4_bel 25 w x0 y0 x1 y1 x2 y2 x3 y3) hH⟩
            · have p' : decide (sgn (trn x0 y0 x1 y1 x2 y2) * sgn (trn x0 y0 x1 y1 x3 y3) ≤ 0) = false := by simpa using p
              have hv : crI x0 y0 x1 y1 x2 y2 x3 y3 = false := by simp [crI, p]
              rw [hv]; clear hv p
              have hR := bx4_cells 25 w x0 y0 x1 y1 x2 y2 x3 y3
              go_enter Try.func9, Try.ntmps9
              go_wp2_with fail
              refine (pointOk_any _ _ _).mono ?_
              rintro e w1 ⟨rfl, hb1⟩
              have g1 : Bel (bx4 25 w x0 y0 x1 y1 x2 y2 x3 y3) w1 := hb1
              clear hb1
              go_wp2_with fail
              refine (pointOk_any _ _ _).mono ?_
              rintro e w2 ⟨rfl, hb2⟩
              have g2 : Bel (bx4 25 w x0 y0 x1 y1 x2 y2 x3 y3) w2 := bel_step g1 hb2
              clear hb2
              clear g1
              go_wp2_with fail
              refine (pointOk_any _ _ _).mono ?_
              rintro e w3 ⟨rfl, hb3⟩
              have g3 : Bel (bx4 25 w x0 y0 x1 y1 x2 y2 x3 y3) w3 := bel_step g2 hb3
              clear hb3
              clear g2
              go_wp2_with fail
              refine (pointOk_any _ _ _).mono ?_
              rintro e w4 ⟨rfl, hb4⟩
              have g4 : Bel (bx4 25 w x0 y0 x1 y1 x2 y2 x3 y3) w4 := bel_step g3 hb4
              clear hb4
              clear g3
              go_wp2
              refine wp_region_noPanic ?_
              refine wp_region_held_drew (S := fun w' => Bel (bx4 25 w x0 y0 x1 y1 x2 y2 x3 y3) w') (by kernel_rfl) (Bel.drew g4) (fun hHeld => ?_)
              refine wpAnyH_take (i := 0) (oi := { dst := some 27, op := Go.Op.load 25 (Go.Operand.tmp 4), type := 25, pos := "l01_geo.go:116", after := #[], guard := none }) (v := ?vac0) rfl (by kernel_rfl) (by kernel_rfl) (by kernel_rfl) (fun _ _ _ h => h) (Or.inl ⟨by rfl, ?hac0⟩) hHeld ?rac0
              case hac0 => (intro w hSw; (try dsimp only at hSw); go_simp; try with_reducible rfl)
              try simp only [Act.put, List.setIfInBounds_toArray, List.set_cons_zero, List.set_cons_succ]
              refine wpAnyH_take (i := 1) (oi := { dst := some 28, op := Go.Op.load 25 (Go.Operand.tmp 5), type := 25, pos := "l01_geo.go:116", after := #[], guard := none }) (v := ?vac1) rfl (by kernel_rfl) (by kernel_rfl) (by kernel_rfl) (fun _ _ _ h => h) (Or.inl ⟨by rfl, ?hac1⟩) hHeld ?rac1
              case hac1 => (intro w hSw; (try dsimp only at hSw); go_simp; try with_reducible rfl)
              try simp only [Act.put, List.setIfInBounds_toArray, List.set_cons_zero, List.set_cons_succ]
              refine wpAnyH_take (i := 3) (oi := { dst := some 30, op := Go.Op.load 25 (Go.Operand.tmp 6), type := 25, pos := "l01_geo.go:116", after := #[], guard := none }) (v := ?vac3) rfl (by kernel_rfl) (by kernel_rfl) (by kernel_rfl) (fun _ _ _ h => h) (Or.inl ⟨by rfl, ?hac3⟩) hHeld ?rac3
              case hac3 => (intro w hSw; (try dsimp only at hSw); go_simp; try with_reducible rfl)
              try simp only [Act.put, List.setIfInBounds_toArray, List.set_cons_zero, List.set_cons_succ]
              refine wpAnyH_take (i := 4) (oi := { dst := some 31, op := Go.Op.load 25 (Go.Operand.tmp 7), type := 25, pos := "l01_geo.go:116", after := #[], guard := none }) (v := ?vac4) rfl (by kernel_rfl) (by kernel_rfl) (by kernel_rfl) (fun _ _ _ h => h) (Or.inl ⟨by rfl, ?hac4⟩) hHeld ?rac4
              case hac4 => (intro w hSw; (try dsimp only at hSw); go_simp; try with_reducible rfl)
              try simp only [Act.put, List.setIfInBounds_toArray, List.set_cons_zero, List.set_cons_succ]
              refine wpAnyH_ready (rs := [2]) (by kernel_rfl) (by simp) ?_
              refine AllReadyH.cons (o := { dst := some 29, op := Go.Op.call { callee := Go.Callee.value (Go.Operand.func 18), args := #[Go.Operand.tmp 27, Go.Operand.tmp 28], argTypes := #[25, 25] }, type := 44, pos := "l01_geo.go:116", after := #[{ on := 0, ground := Go.Ground.data }, { on := 1, ground := Go.Ground.data }], guard := none }) rfl (fun K hK => ?_) AllReadyH.nil
              go_simp
              refine (boxOf_any _ _ _ _ _).mono ?_
              rintro e w' ⟨rfl, hbk⟩
              go_wp2_with fail
              refine hK.out _ _ (bel_step hHeld hbk) (fun hHeld' => ?_)
              clear hK K hHeld
              have hHeld := hHeld'
              clear hHeld'
              try simp only [Act.put, List.setIfInBounds_toArray, List.set_cons_zero, List.set_cons_succ]
              refine wpAnyH_ready (rs := [5]) (by kernel_rfl) (by simp) ?_
              refine AllReadyH.cons (o := { dst := some 32, op := Go.Op.call { callee := Go.Callee.value (Go.Operand.func 18), args := #[Go.Operand.tmp 30, Go.Operand.tmp 31], argTypes := #[25, 25] }, type := 44, pos := "l01_geo.go:116", after := #[{ on := 3, ground := Go.Ground.data }, { on := 4, ground := Go.Ground.data }, { on := 2, ground := Go.Ground.chain }], guard := none }) rfl (fun K hK => ?_) AllReadyH.nil
              go_simp
              refine (boxOf_any _ _ _ _ _).mono ?_
              rintro e w' ⟨rfl, hbk⟩
              go_wp2_with fail
              refine hK.out _ _ (bel_step hHeld hbk) (fun hHeld' => ?_)
              clear hK K hHeld
              have hHeld := hHeld'
              clear hHeld'
              try simp only [Act.put, List.setIfInBounds_toArray, List.set_cons_zero, List.set_cons_succ]
              refine wpAnyH_ready (rs := [6]) (by kernel_rfl) (by simp) ?_
              refine AllReadyH.cons (o := { dst := some 33, op := Go.Op.call { callee := Go.Callee.value (Go.Operand.func 17), args := #[Go.Operand.tmp 29, Go.Operand.tmp 32], argTypes := #[44, 44] }, type := 4, pos := "l01_geo.go:116", after := #[{ on := 2, ground := Go.Ground.data }, { on := 5, ground := Go.Ground.data }, { on := 5, ground := Go.Ground.chain }], guard := none }) rfl (fun K hK => ?_) AllReadyH.nil
              go_simp
              refine (boxesMeet_any _ _ _ _ _ _ _ _ _).mono ?_
              rintro e w' ⟨rfl, hbk⟩
              go_wp2_with fail
              refine hK.out _ _ (bel_step hHeld hbk) (fun hHeld' => ?_)
              clear hK K hHeld
              have hHeld := hHeld'
              clear hHeld'
              try simp only [Act.put, List.setIfInBounds_toArray, List.set_cons_zero, List.set_cons_succ]
              refine wpAnyH_take (i := 7) (oi := { dst := some 34, op := Go.Op.move (Go.Operand.tmp 33), type := 4, pos := "l01_geo.go:116", after := #[{ on := 6, ground := Go.Ground.data }, { on := 6, ground := Go.Ground.chain }], guard := none }) (v := ?vac7) rfl (by kernel_rfl) (by kernel_rfl) (by kernel_rfl) (fun _ _ _ h => h) (Or.inl ⟨by rfl, ?hac7⟩) hHeld ?rac7
              case hac7 => (intro w hSw; (try dsimp only at hSw); go_simp; try with_reducible rfl)
              try simp only [Act.put, List.setIfInBounds_toArray, List.set_cons_zero, List.set_cons_succ]
              refine wpAnyH_take (i := 8) (oi := { dst := some 35, op := Go.Op.load 25 (Go.Operand.tmp 4), type := 25, pos := "l01_geo.go:116", after := #[{ on := 7, ground := Go.Ground.guard }], guard := some (7, true) }) (v := ?vac8) rfl (by kernel_rfl) (by kernel_rfl) (by kernel_rfl) (fun _ _ _ h => h) (Or.inl ⟨by rfl, ?hac8⟩) hHeld ?rac8
              case hac8 => (intro w hSw; (try dsimp only at hSw); go_simp; try with_reducible rfl)
              try simp only [Act.put, List.setIfInBounds_toArray, List.set_cons_zero, List.set_cons_succ]
              refine wpAnyH_take (i := 9) (oi := { dst := some 36, op := Go.Op.load 25 (Go.Operand.tmp 5), type := 25, pos := "l01_geo.go:116", after := #[{ on := 7, ground := Go.Ground.guard }], guard := some (7, true) }) (v := ?vac9) rfl (by kernel_rfl) (by kernel_rfl) (by kernel_rfl) (fun _ _ _ h => h) (Or.inl ⟨by rfl, ?hac9⟩) hHeld ?rac9
              case hac9 => (intro w hSw; (try dsimp only at hSw); go_simp; try with_reducible rfl)
              try simp only [Act.put, List.setIfInBounds_toArray, List.set_cons_zero, List.set_cons_succ]
              refine wpAnyH_take (i := 10) (oi := { dst := some 37, op := Go.Op.load 25 (Go.Operand.tmp 6), type := 25, pos := "l01_geo.go:116", after := #[{ on := 7, ground := Go.Ground.guard }], guard := some (7, true) }) (v := ?vac10) rfl (by kernel_rfl) (by kernel_rfl) (by kernel_rfl) (fun _ _ _ h => h) (Or.inl ⟨by rfl, ?hac10⟩) hHeld ?rac10
              case hac10 => (intro w hSw; (try dsimp only at hSw); go_simp; try with_reducible rfl)
              try simp only [Act.put, List.setIfInBounds_toArray, List.set_cons_zero, List.set_cons_succ]
              refine wpAnyH_take (i := 12) (oi := { dst := some 39, op := Go.Op.load 25 (Go.Operand.tmp 4), type := 25, pos := "l01_geo.go:116", after := #[{ on := 7, ground := Go.Ground.guard }], guard := some (7, true) }) (v := ?vac12) rfl (by kernel_rfl) (by kernel_rfl) (by kernel_rfl) (fun _ _ _ h => h) (Or.inl ⟨by rfl, ?hac12⟩) hHeld ?rac12
              case hac12 => (intro w hSw; (try dsimp only at hSw); go_simp; try with_reducible rfl)
              try simp only [Act.put, List.setIfInBounds_toArray, List.set_cons_zero, List.set_cons_succ]
              refine wpAnyH_take (i := 13) (oi := { dst := some 40, op := Go.Op.load 25 (Go.Operand.tmp 5), type := 25, pos := "l01_geo.go:116", after := #[{ on := 7, ground := Go.Ground.guard }], guard := some (7, true) }) (v := ?vac13) rfl (by kernel_rfl) (by kernel_rfl) (by kernel_rfl) (fun _ _ _ h => h) (Or.inl ⟨by rfl, ?hac13⟩) hHeld ?rac13
              case hac13 => (intro w hSw; (try dsimp only at hSw); go_simp; try with_reducible rfl)
              try simp only [Act.put, List.setIfInBounds_toArray, List.set_cons_zero, List.set_cons_succ]
              refine wpAnyH_take (i := 14) (oi := { dst := some 41, op := Go.Op.load 25 (Go.Operand.tmp 7), type := 25, pos := "l01_geo.go:116", after := #[{ on := 7, ground := Go.Ground.guard }], guard := some (7, true) }) (v := ?vac14) rfl (by kernel_rfl) (by kernel_rfl) (by kernel_rfl) (fun _ _ _ h => h) (Or.inl ⟨by rfl, ?hac14⟩) hHeld ?rac14
              case hac14 => (intro w hSw; (try dsimp only at hSw); go_simp; try with_reducible rfl)
              try simp only [Act.put, List.setIfInBounds_toArray, List.set_cons_zero, List.set_cons_succ]
              refine wpAnyH_ready (rs := [11]) (by kernel_rfl) (by simp) ?_
              refine AllReadyH.cons (o := { dst := some 38, op := Go.Op.call { callee := Go.Callee.value (Go.Operand.func 6), args := #[Go.Operand.tmp 35, Go.Operand.tmp 36, Go.Operand.tmp 37], argTypes := #[25, 25, 25] }, type := 2, pos := "l01_geo.go:117", after := #[{ on := 8, ground := Go.Ground.data }, { on := 9, ground := Go.Ground.data }, { on := 10, ground := Go.Ground.data }, { on := 7, ground := Go.Ground.chain }, { on := 7, ground := Go.Ground.guard }], guard := some (7, true) }) rfl (fun K hK => ?_) AllReadyH.nil
              go_simp
              refine (turn_ok _ _ _ _ _ _ _ (by assumption) (by assumption) (by assumption)).mono ?_
              rintro e w' ⟨rfl, hbk⟩
              go_wp2_with fail
              refine hK.out _ _ (bel_step hHeld hbk) (fun hHeld' => ?_)
              clear hK K hHeld
              have hHeld := hHeld'
              clear hHeld'
              try simp only [Act.put, List.setIfInBounds_toArray, List.set_cons_zero, List.set_cons_succ]
              refine wpAnyH_ready (rs := [15]) (by kernel_rfl) (by simp) ?_
              refine AllReadyH.cons (o := { dst := some 42, op := Go.Op.call { callee := Go.Callee.value (Go.Operand.func 6), args := #[Go.Operand.tmp 39, Go.Operand.tmp 40, Go.Operand.tmp 41], argTypes := #[25, 25, 25] }, type := 2, pos := "l01_geo.go:117", after := #[{ on := 12, ground := Go.Ground.data }, { on := 13, ground := Go.Ground.data }, { on := 14, ground := Go.Ground.data }, { on := 11, ground := Go.Ground.chain }, { on := 7, ground := Go.Ground.guard }], guard := some (7, true) }) rfl (fun K hK => ?_) AllReadyH.nil
              go_simp
              refine (turn_ok _ _ _ _ _ _ _ (by assumption) (by assumption) (by assumption)).mono ?_
              rintro e w' ⟨rfl, hbk⟩
              go_wp2_with fail
              refine hK.out _ _ (bel_step hHeld hbk) (fun hHeld' => ?_)
              clear hK K hHeld
              have hHeld := hHeld'
              clear hHeld'
              try simp only [Act.put, List.setIfInBounds_toArray, List.set_cons_zero, List.set_cons_succ]
              refine wpAnyH_take (i := 16) (oi := { dst := some 43, op := Go.Op.binOp Go.BinOp.mul 2 (Go.Operand.tmp 38) (Go.Operand.tmp 42) 2, type := 2, pos := "l01_geo.go:116", after := #[{ on := 11, ground := Go.Ground.data }, { on := 15, ground := Go.Ground.data }, { on := 7, ground := Go.Ground.guard }], guard := some (7, true) }) (v := ?vac16) rfl (by kernel_rfl) (by kernel_rfl) (by kernel_rfl) (fun _ _ _ h => h) (Or.inl ⟨by rfl, ?hac16⟩) hHeld ?rac16
              case hac16 => (intro w hSw; (try dsimp only at hSw); go_simp; try with_reducible rfl)
              try simp only [Act.put, List.setIfInBounds_toArray, List.set_cons_zero, List.set_cons_succ]
              refine wpAnyH_take (i := 17) (oi := { dst := some 44, op := Go.Op.binOp Go.BinOp.leq 2 (Go.Operand.tmp 43) (Go.Operand.const (Go.Value.int Go.IntKind.i64 0)) 2, type := 4, pos := "l01_geo.go:116", after := #[{ on := 16, ground := Go.Ground.data }, { on := 7, ground := Go.Ground.guard }], guard := some (7, true) }) (v := ?vac17) rfl (by kernel_rfl) (by kernel_rfl) (by kernel_rfl) (fun _ _ _ h => h) (Or.inl ⟨by rfl, ?hac17⟩) hHeld ?rac17
              case hac17 => (intro w hSw; (try dsimp only at hSw); go_simp; try with_reducible rfl)
              try simp only [Act.put, List.setIfInBounds_toArray, List.set_cons_zero, List.set_cons_succ]
              refine wpAnyH_take (i := 18) (oi := { dst := some 45, op := Go.Op.pick (Go.Operand.tmp 34) (Go.Operand.tmp 44) (Go.Operand.const (Go.Value.bool false)), type := 4, pos := "l01_geo.go:116", after := #[{ on := 7, ground := Go.Ground.data }, { on := 17, ground := Go.Ground.data }], guard := none }) (v := ?vac18) rfl (by kernel_rfl) (by kernel_rfl) (by kernel_rfl) (fun _ _ _ h => h) (Or.inl ⟨by rfl, ?hac18⟩) hHeld ?rac18
              case hac18 => (intro w hSw; (try dsimp only at hSw); go_simp; try with_reducible rfl)
              try simp only [Act.put, List.setIfInBounds_toArray, List.set_cons_zero, List.set_cons_succ]
              refine wpAnyH_take (i := 19) (oi := { dst := some 46, op := Go.Op.move (Go.Operand.tmp 45), type := 4, pos := "l01_geo.go:116", after := #[{ on := 18, ground := Go.Ground.data }, { on := 15, ground := Go.Ground.chain }], guard := none }) (v := ?vac19) rfl (by kernel_rfl) (by kernel_rfl) (by kernel_rfl) (fun _ _ _ h => h) (Or.inl ⟨by rfl, ?hac19⟩) hHeld ?rac19
              case hac19 => (intro w hSw; (try dsimp only at hSw); go_simp; try with_reducible rfl)
              try simp only [Act.put, List.setIfInBounds_toArray, List.set_cons_zero, List.set_cons_succ]
              refine wpAnyH_take (i := 20) (oi := { dst := some 47, op := Go.Op.load 25 (Go.Operand.tmp 6), type := 25, pos := "l01_geo.go:116", after := #[{ on := 19, ground := Go.Ground.guard }], guard := some (19, true) }) (v := undef) rfl (by kernel_rfl) (by kernel_rfl) (by kernel_rfl) (fun _ _ _ h => h) (Or.inr ⟨by rfl, rfl⟩) hHeld ?_
              try simp only [Act.put, List.setIfInBounds_toArray, List.set_cons_zero, List.set_cons_succ]
              refine wpAnyH_take (i := 21) (oi := { dst := some 48, op := Go.Op.load 25 (Go.Operand.tmp 7), type := 25, pos := "l01_geo.go:116", after := #[{ on := 19, ground := Go.Ground.guard }], guard := some (19, true) }) (v := undef) rfl (by kernel_rfl) (by kernel_rfl) (by kernel_rfl) (fun _ _ _ h => h) (Or.inr ⟨by rfl, rfl⟩) hHeld ?_
              try simp only [Act.put, List.setIfInBounds_toArray, List.set_cons_zero, List.set_cons_succ]
              refine wpAnyH_take (i := 22) (oi := { dst := some 49, op := Go.Op.load 25 (Go.Operand.tmp 4), type := 25, pos := "l01_geo.go:116", after := #[{ on := 19, ground := Go.Ground.guard }], guard := some (19, true) }) (v := undef) rfl (by kernel_rfl) (by kernel_rfl) (by kernel_rfl) (fun _ _ _ h => h) (Or.inr ⟨by rfl, rfl⟩) hHeld ?_
              try simp only [Act.put, List.setIfInBounds_toArray, List.set_cons_zero, List.set_cons_succ]
              refine wpAnyH_take (i := 23) (oi := { dst := some 50, op := Go.Op.call { callee := Go.Callee.value (Go.Operand.func 6), args := #[Go.Operand.tmp 47, Go.Operand.tmp 48, Go.Operand.tmp 49], argTypes := #[25, 25, 25] }, type := 2, pos := "l01_geo.go:118", after := #[{ on := 20, ground := Go.Ground.data }, { on := 21, ground := Go.Ground.data }, { on := 22, ground := Go.Ground.data }, { on := 19, ground := Go.Ground.chain }, { on := 19, ground := Go.Ground.guard }], guard := some (19, true) }) (v := undef) rfl (by kernel_rfl) (by kernel_rfl) (by kernel_rfl) (fun _ _ _ h => h) (Or.inr ⟨by rfl, rfl⟩) hHeld ?_
              try simp only [Act.put, List.setIfInBounds_toArray, List.set_cons_zero, List.set_cons_succ]
              refine wpAnyH_take (i := 24) (oi := { dst := some 51, op := Go.Op.load 25 (Go.Operand.tmp 6), type := 25, pos := "l01_geo.go:116", after := #[{ on := 19, ground := Go.Ground.guard }], guard := some (19, true) }) (v := undef) rfl (by kernel_rfl) (by kernel_rfl) (by kernel_rfl) (fun _ _ _ h => h) (Or.inr ⟨by rfl, rfl⟩) hHeld ?_
              try simp only [Act.put, List.setIfInBounds_toArray, List.set_cons_zero, List.set_cons_succ]
              refine wpAnyH_take (i := 25) (oi := { dst := some 52, op := Go.Op.load 25 (Go.Operand.tmp 7), type := 25, pos := "l01_geo.go:116", after := #[{ on := 19, ground := Go.Ground.guard }], guard := some (19, true) }) (v := undef) rfl (by kernel_rfl) (by kernel_rfl) (by kernel_rfl) (fun _ _ _ h => h) (Or.inr ⟨by rfl, rfl⟩) hHeld ?_
              try simp only [Act.put, List.setIfInBounds_toArray, List.set_cons_zero, List.set_cons_succ]
              refine wpAnyH_take (i := 26) (oi := { dst := some 53, op := Go.Op.load 25 (Go.Operand.tmp 5), type := 25, pos := "l01_geo.go:116", after := #[{ on := 19, ground := Go.Ground.guard }], guard := some (19, true) }) (v := undef) rfl (by kernel_rfl) (by kernel_rfl) (by kernel_rfl) (fun _ _ _ h => h) (Or.inr ⟨by rfl, rfl⟩) hHeld ?_
              try simp only [Act.put, List.setIfInBounds_toArray, List.set_cons_zero, List.set_cons_succ]
              refine wpAnyH_take (i := 27) (oi := { dst := some 54, op := Go.Op.call { callee := Go.Callee.value (Go.Operand.func 6), args := #[Go.Operand.tmp 51, Go.Operand.tmp 52, Go.Operand.tmp 53], argTypes := #[25, 25, 25] }, type := 2, pos := "l01_geo.go:118", after := #[{ on := 24, ground := Go.Ground.data }, { on := 25, ground := Go.Ground.data }, { on := 26, ground := Go.Ground.data }, { on := 23, ground := Go.Ground.chain }, { on := 19, ground := Go.Ground.guard }], guard := some (19, true) }) (v := undef) rfl (by kernel_rfl) (by kernel_rfl) (by kernel_rfl) (fun _ _ _ h => h) (Or.inr ⟨by rfl, rfl⟩) hHeld ?_
              try simp only [Act.put, List.setIfInBounds_toArray, List.set_cons_zero, List.set_cons_succ]
              refine wpAnyH_take (i := 28) (oi := { dst := some 55, op := Go.Op.binOp Go.BinOp.mul 2 (Go.Operand.tmp 50) (Go.Operand.tmp 54) 2, type := 2, pos := "l01_geo.go:116", after := #[{ on := 23, ground := Go.Ground.data }, { on := 27, ground := Go.Ground.data }, { on := 19, ground := Go.Ground.guard }], guard := some (19, true) }) (v := undef) rfl (by kernel_rfl) (by kernel_rfl) (by kernel_rfl) (fun _ _ _ h => h) (Or.inr ⟨by rfl, rfl⟩) hHeld ?_
              try simp only [Act.put, List.setIfInBounds_toArray, List.set_cons_zero, List.set_cons_succ]
              refine wpAnyH_take (i := 29) (oi := { dst := some 56, op := Go.Op.binOp Go.BinOp.leq 2 (Go.Operand.tmp 55) (Go.Operand.const (Go.Value.int Go.IntKind.i64 0)) 2, type := 4, pos := "l01_geo.go:116", after := #[{ on := 28, ground := Go.Ground.data }, { on := 19, ground := Go.Ground.guard }], guard := some (19, true) }) (v := undef) rfl (by kernel_rfl) (by kernel_rfl) (by kernel_rfl) (fun _ _ _ h => h) (Or.inr ⟨by rfl, rfl⟩) hHeld ?_
              try simp only [Act.put, List.setIfInBounds_toArray, List.set_cons_zero, List.set_cons_succ]
              refine wpAnyH_take (i := 30) (oi := { dst := some 57, op := Go.Op.pick (Go.Operand.tmp 46) (Go.Operand.tmp 56) (Go.Operand.const (Go.Value.bool false)), type := 4, pos := "l01_geo.go:116", after := #[{ on := 19, ground := Go.Ground.data }, { on := 29, ground := Go.Ground.data }], guard := none }) (v := ?vac30) rfl (by kernel_rfl) (by kernel_rfl) (by kernel_rfl) (fun _ _ _ h => h) (Or.inl ⟨by rfl, ?hac30⟩) hHeld ?rac30
              case hac30 => (intro w hSw; (try dsimp only at hSw); go_simp; try with_reducible rfl)
              try simp only [Act.put, List.setIfInBounds_toArray, List.set_cons_zero, List.set_cons_succ]
              refine wpAnyH_take (i := 31) (oi := { dst := some 8, op := Go.Op.assign (Go.Operand.tmp 57), type := 4, pos := "l01_geo.go:116", after := #[{ on := 30, ground := Go.Ground.data }, { on := 27, ground := Go.Ground.chain }, { on := 0, ground := Go.Ground.phase }, { on := 1, ground := Go.Ground.phase }, { on := 2, ground := Go.Ground.phase }, { on := 3, ground := Go.Ground.phase }, { on := 4, ground := Go.Ground.phase }, { on := 5, ground := Go.Ground.phase }, { on := 6, ground := Go.Ground.phase }, { on := 7, ground := Go.Ground.phase }, { on := 8, ground := Go.Ground.phase }, { on := 9, ground := Go.Ground.phase }, { on := 10, ground := Go.Ground.phase }, { on := 11, ground := Go.Ground.phase }, { on := 12, ground := Go.Ground.phase }, { on := 13, ground := Go.Ground.phase }, { on := 14, ground := Go.Ground.phase }, { on := 15, ground := Go.Ground.phase }, { on := 16, ground := Go.Ground.phase }, { on := 17, ground := Go.Ground.phase }, { on := 18, ground := Go.Ground.phase }, { on := 19, ground := Go.Ground.phase }, { on := 20, ground := Go.Ground.phase }, { on := 21, ground := Go.Ground.phase }, { on := 22, ground := Go.Ground.phase }, { on := 23, ground := Go.Ground.phase }, { on := 24, ground := Go.Ground.phase }, { on := 25, ground := Go.Ground.phase }, { on := 26, ground := Go.Ground.phase }, { on := 27, ground := Go.Ground.phase }, { on := 28, ground := Go.Ground.phase }, { on := 29, ground := Go.Ground.phase }, { on := 30, ground := Go.Ground.phase }], guard := none }) (v := ?vac31) rfl (by kernel_rfl) (by kernel_rfl) (by kernel_rfl) (fun _ _ _ h => h) (Or.inl ⟨by rfl, ?hac31⟩) hHeld ?rac31
              case hac31 => (intro w hSw; (try dsimp only at hSw); go_simp; try with_reducible rfl)
              try simp only [Act.put, List.setIfInBounds_toArray, List.set_cons_zero, List.set_cons_succ]
              refine wpAnyH_done (by kernel_rfl) ?_ _
              refine NoPanic.normal ?_
              go_wp2
              go_ret
              exact ⟨rfl, bel_step (bx4_bel 25 w x0 y0 x1 y1 x2 y2 x3 y3) hHeld⟩
          · have hm : boxB (min x0 x1) (min y0 y1) (max x0 x1) (max y0 y1) (min x2 x3) (min y2 y3) (max x2 x3) (max y2 y3) = false := by simpa using hm
            have hv : crI x0 y0 x1 y1 x2 y2 x3 y3 = false := by simp [crI, hm]
            rw [hv]; clear hv
            have hR := bx4_cells 25 w x0 y0 x1 y1 x2 y2 x3 y3
            go_enter Try.func9, Try.ntmps9
            go_wp2_with fail
            refine (pointOk_any _ _ _).mono ?_
            rintro e w1 ⟨rfl, hb1⟩
            have g1 : Bel (bx4 25 w x0 y0 x1 y1 x2 y2 x3 y3) w1 := hb1
            clear hb1
            go_wp2_with fail
            refine (pointOk_any _ _ _).mono ?_
            rintro e w2 ⟨rfl, hb2⟩
            have g2 : Bel (bx4 25 w x0 y0 x1 y1 x2 y2 x3 y3) w2 := bel_step g1 hb2
            clear hb2
            clear g1
            go_wp2_with fail
            refine (pointOk_any _ _ _).mono ?_
            rintro e w3 ⟨rfl, hb3⟩
            have g3 : Bel (bx4 25 w x0 y0 x1 y1 x2 y2 x3 y3) w3 := bel_step g2 hb3
            clear hb3
            clear g2
            go_wp2_with fail
            refine (pointOk_any _ _ _).mono ?_
            rintro e w4 ⟨rfl, hb4⟩
            have g4 : Bel (bx4 25 w x0 y0 x1 y1 x2 y2 x3 y3) w4 := bel_step g3 hb4
            clear hb4
            clear g3
            go_wp2
            refine wp_region_noPanic ?_
            refine wp_region_held_drew (S := fun w' => Bel (bx4 25 w x0 y0 x1 y1 x2 y2 x3 y3) w') (by kernel_rfl) (Bel.drew g4) (fun hHeld => ?_)
            refine wpAnyH_take (i := 0) (oi := { dst := some 27, op := Go.Op.load 25 (Go.Operand.tmp 4), type := 25, pos := "l01_geo.go:116", after := #[], guard := none }) (v := ?vad0) rfl (by kernel_rfl) (by kernel_rfl) (by kernel_rfl) (fun _ _ _ h => h) (Or.inl ⟨by rfl, ?had0⟩) hHeld ?rad0
            case had0 => (intro w hSw; (try dsimp only at hSw); go_simp; try with_reducible rfl)
            try simp only [Act.put, List.setIfInBounds_toArray, List.set_cons_zero, List.set_cons_succ]
            refine wpAnyH_take (i := 1) (oi := { dst := some 28, op := Go.Op.load 25 (Go.Operand.tmp 5), type := 25, pos := "l01_geo.go:116", after := #[], guard := none }) (v := ?vad1) rfl (by kernel_rfl) (by kernel_rfl) (by kernel_rfl) (fun _ _ _ h => h) (Or.inl ⟨by rfl, ?had1⟩) hHeld ?rad1
            case had1 => (intro w hSw; (try dsimp only at hSw); go_simp; try with_reducible rfl)
            try simp only [Act.put, List.setIfInBounds_toArray, List.set_cons_zero, List.set_cons_succ]
            refine wpAnyH_take (i := 3) (oi := { dst := some 30, op := Go.Op.load 25 (Go.Operand.tmp 6), type := 25, pos := "l01_geo.go:116", after := #[], guard := none }) (v := ?vad3) rfl (by kernel_rfl) (by kernel_rfl) (by kernel_rfl) (fun _ _ _ h => h) (Or.inl ⟨by rfl, ?had3⟩) hHeld ?rad3
            case had3 => (intro w hSw; (try dsimp only at hSw); go_simp; try with_reducible rfl)
            try simp only [Act.put, List.setIfInBounds_toArray, List.set_cons_zero, List.set_cons_succ]
            refine wpAnyH_take (i := 4) (oi := { dst := some 31, op := Go.Op.load 25 (Go.Operand.tmp 7), type := 25, pos := "l01_geo.go:116", after := #[], guard := none }) (v := ?vad4) rfl (by kernel_rfl) (by kernel_rfl) (by kernel_rfl) (fun _ _ _ h => h) (Or.inl ⟨by rfl, ?had4⟩) hHeld ?rad4
            case had4 => (intro w hSw; (try dsimp only at hSw); go_simp; try with_reducible rfl)
            try simp only [Act.put, List.setIfInBounds_toArray, List.set_cons_zero, List.set_cons_succ]
            refine wpAnyH_ready (rs := [2]) (by kernel_rfl) (by simp) ?_
            refine AllReadyH.cons (o := { dst := some 29, op := Go.Op.call { callee := Go.Callee.value (Go.Operand.func 18), args := #[Go.Operand.tmp 27, Go.Operand.tmp 28], argTypes := #[25, 25] }, type := 44, pos := "l01_geo.go:116", after := #[{ on := 0, ground := Go.Ground.data }, { on := 1, ground := Go.Ground.data }], guard := none }) rfl (fun K hK => ?_) AllReadyH.nil
            go_simp
            refine (boxOf_any _ _ _ _ _).mono ?_
            rintro e w' ⟨rfl, hbk⟩
            go_wp2_with fail
            refine hK.out _ _ (bel_step hHeld hbk) (fun hHeld' => ?_)
            clear hK K hHeld
            have hHeld := hHeld'
            clear hHeld'
            try simp only [Act.put, List.setIfInBounds_toArray, List.set_cons_zero, List.set_cons_succ]
            refine wpAnyH_ready (rs := [5]) (by kernel_rfl) (by simp) ?_
            refine AllReadyH.cons (o := { dst := some 32, op := Go.Op.call { callee := Go.Callee.value (Go.Operand.func 18), args := #[Go.Operand.tmp 30, Go.Operand.tmp 31], argTypes := #[25, 25] }, type := 44, pos := "l01_geo.go:116", after := #[{ on := 3, ground := Go.Ground.data }, { on := 4, ground := Go.Ground.data }, { on := 2, ground := Go.Ground.chain }], guard := none }) rfl (fun K hK => ?_) AllReadyH.nil
            go_simp
            refine (boxOf_any _ _ _ _ _).mono ?_
            rintro e w' ⟨rfl, hbk⟩
            go_wp2_with fail
            refine hK.out _ _ (bel_step hHeld hbk) (fun hHeld' => ?_)
            clear hK K hHeld
            have hHeld := hHeld'
            clear hHeld'
            try simp only [Act.put, List.setIfInBounds_toArray, List.set_cons_zero, List.set_cons_succ]
            refine wpAnyH_ready (rs := [6]) (by kernel_rfl) (by simp) ?_
            refine AllReadyH.cons (o := { dst := some 33, op := Go.Op.call { callee := Go.Callee.value (Go.Operand.func 17), args := #[Go.Operand.tmp 29, Go.Operand.tmp 32], argTypes := #[44, 44] }, type := 4, pos := "l01_geo.go:116", after := #[{ on := 2, ground := Go.Ground.data }, { on := 5, ground := Go.Ground.data }, { on := 5, ground := Go.Ground.chain }], guard := none }) rfl (fun K hK => ?_) AllReadyH.nil
            go_simp
            refine (boxesMeet_any _ _ _ _ _ _ _ _ _).mono ?_
            rintro e w' ⟨rfl, hbk⟩
            go_wp2_with fail
            refine hK.out _ _ (bel_step hHeld hbk) (fun hHeld' => ?_)
            clear hK K hHeld
            have hHeld := hHeld'
            clear hHeld'
            try simp only [Act.put, List.setIfInBounds_toArray, List.set_cons_zero, List.set_cons_succ]
            refine wpAnyH_take (i := 7) (oi := { dst := some 34, op := Go.Op.move (Go.Operand.tmp 33), type := 4, pos := "l01_geo.go:116", after := #[{ on := 6, ground := Go.Ground.data }, { on := 6, ground := Go.Ground.chain }], guard := none }) (v := ?vad7) rfl (by kernel_rfl) (by kernel_rfl) (by kernel_rfl) (fun _ _ _ h => h) (Or.inl ⟨by rfl, ?had7⟩) hHeld ?rad7
            case had7 => (intro w hSw; (try dsimp only at hSw); go_simp; try with_reducible rfl)
            try simp only [Act.put, List.setIfInBounds_toArray, List.set_cons_zero, List.set_cons_succ]
            refine wpAnyH_take (i := 8) (oi := { dst := some 35, op := Go.Op.load 25 (Go.Operand.tmp 4), type := 25, pos := "l01_geo.go:116", after := #[{ on := 7, ground := Go.Ground.guard }], guard := some (7, true) }) (v := undef) rfl (by kernel_rfl) (by kernel_rfl) (by kernel_rfl) (fun _ _ _ h => h) (Or.inr ⟨by rfl, rfl⟩) hHeld ?_
            try simp only [Act.put, List.setIfInBounds_toArray, List.set_cons_zero, List.set_cons_succ]
            refine wpAnyH_take (i := 9) (oi := { dst := some 36, op := Go.Op.load 25 (Go.Operand.tmp 5), type := 25, pos := "l01_geo.go:116", after := #[{ on := 7, ground := Go.Ground.guard }], guard := some (7, true) }) (v := undef) rfl (by kernel_rfl) (by kernel_rfl) (by kernel_rfl) (fun _ _ _ h => h) (Or.inr ⟨by rfl, rfl⟩) hHeld ?_
            try simp only [Act.put, List.setIfInBounds_toArray, List.set_cons_zero, List.set_cons_succ]
            refine wpAnyH_take (i := 10) (oi := { dst := some 37, op := Go.Op.load 25 (Go.Operand.tmp 6), type := 25, pos := "l01_geo.go:116", after := #[{ on := 7, ground := Go.Ground.guard }], guard := some (7, true) }) (v := undef) rfl (by kernel_rfl) (by kernel_rfl) (by kernel_rfl) (fun _ _ _ h => h) (Or.inr ⟨by rfl, rfl⟩) hHeld ?_
            try simp only [Act.put, List.setIfInBounds_toArray, List.set_cons_zero, List.set_cons_succ]
            refine wpAnyH_take (i := 11) (oi := { dst := some 38, op := Go.Op.call { callee := Go.Callee.value (Go.Operand.func 6), args := #[Go.Operand.tmp 35, Go.Operand.tmp 36, Go.Operand.tmp 37], argTypes := #[25, 25, 25] }, type := 2, pos := "l01_geo.go:117", after := #[{ on := 8, ground := Go.Ground.data }, { on := 9, ground := Go.Ground.data }, { on := 10, ground := Go.Ground.data }, { on := 7, ground := Go.Ground.chain }, { on := 7, ground := Go.Ground.guard }], guard := some (7, true) }) (v := undef) rfl (by kernel_rfl) (by kernel_rfl) (by kernel_rfl) (fun _ _ _ h => h) (Or.inr ⟨by rfl, rfl⟩) hHeld ?_
            try simp only [Act.put, List.setIfInBounds_toArray, List.set_cons_zero, List.set_cons_succ]
            refine wpAnyH_take (i := 12) (oi := { dst := some 39, op := Go.Op.load 25 (Go.Operand.tmp 4), type := 25, pos := "l01_geo.go:116", after := #[{ on := 7, ground := Go.Ground.guard }], guard := some (7, true) }) (v := undef) rfl (by kernel_rfl) (by kernel_rfl) (by kernel_rfl) (fun _ _ _ h => h) (Or.inr ⟨by rfl, rfl⟩) hHeld ?_
            try simp only [Act.put, List.setIfInBounds_toArray, List.set_cons_zero, List.set_cons_succ]
            refine wpAnyH_take (i := 13) (oi := { dst := some 40, op := Go.Op.load 25 (Go.Operand.tmp 5), type := 25, pos := "l01_geo.go:116", after := #[{ on := 7, ground := Go.Ground.guard }], guard := some (7, true) }) (v := undef) rfl (by kernel_rfl) (by kernel_rfl) (by kernel_rfl) (fun _ _ _ h => h) (Or.inr ⟨by rfl, rfl⟩) hHeld ?_
            try simp only [Act.put, List.setIfInBounds_toArray, List.set_cons_zero, List.set_cons_succ]
            refine wpAnyH_take (i := 14) (oi := { dst := some 41, op := Go.Op.load 25 (Go.Operand.tmp 7), type := 25, pos := "l01_geo.go:116", after := #[{ on := 7, ground := Go.Ground.guard }], guard := some (7, true) }) (v := undef) rfl (by kernel_rfl) (by kernel_rfl) (by kernel_rfl) (fun _ _ _ h => h) (Or.inr ⟨by rfl, rfl⟩) hHeld ?_
            try simp only [Act.put, List.setIfInBounds_toArray, List.set_cons_zero, List.set_cons_succ]
            refine wpAnyH_take (i := 15) (oi := { dst := some 42, op := Go.Op.call { callee := Go.Callee.value (Go.Operand.func 6), args := #[Go.Operand.tmp 39, Go.Operand.tmp 40, Go.Operand.tmp 41], argTypes := #[25, 25, 25] }, type := 2, pos := "l01_geo.go:117", after := #[{ on := 12, ground := Go.Ground.data }, { on := 13, ground := Go.Ground.data }, { on := 14, ground := Go.Ground.data }, { on := 11, ground := Go.Ground.chain }, { on := 7, ground := Go.Ground.guard }], guard := some (7, true) }) (v := undef) rfl (by kernel_rfl) (by kernel_rfl) (by kernel_rfl) (fun _ _ _ h => h) (Or.inr ⟨by rfl, rfl⟩) hHeld ?_
            try simp only [Act.put, List.setIfInBounds_toArray, List.set_cons_zero, List.set_cons_succ]
            refine wpAnyH_take (i := 16) (oi := { dst := some 43, op := Go.Op.binOp Go.BinOp.mul 2 (Go.Operand.tmp 38) (Go.Operand.tmp 42) 2, type := 2, pos := "l01_geo.go:116", after := #[{ on := 11, ground := Go.Ground.data }, { on := 15, ground := Go.Ground.data }, { on := 7, ground := Go.Ground.guard }], guard := some (7, true) }) (v := undef) rfl (by kernel_rfl) (by kernel_rfl) (by kernel_rfl) (fun _ _ _ h => h) (Or.inr ⟨by rfl, rfl⟩) hHeld ?_
            try simp only [Act.put, List.setIfInBounds_toArray, List.set_cons_zero, List.set_cons_succ]
            refine wpAnyH_take (i := 17) (oi := { dst := some 44, op := Go.Op.binOp Go.BinOp.leq 2 (Go.Operand.tmp 43) (Go.Operand.const (Go.Value.int Go.IntKind.i64 0)) 2, type := 4, pos := "l01_geo.go:116", after := #[{ on := 16, ground := Go.Ground.data }, { on := 7, ground := Go.Ground.guard }], guard := some (7, true) }) (v := undef) rfl (by kernel_rfl) (by kernel_rfl) (by kernel_rfl) (fun _ _ _ h => h) (Or.inr ⟨by rfl, rfl⟩) hHeld ?_
            try simp only [Act.put, List.setIfInBounds_toArray, List.set_cons_zero, List.set_cons_succ]
            refine wpAnyH_take (i := 18) (oi := { dst := some 45, op := Go.Op.pick (Go.Operand.tmp 34) (Go.Operand.tmp 44) (Go.Operand.const (Go.Value.bool false)), type := 4, pos := "l01_geo.go:116", after := #[{ on := 7, ground := Go.Ground.data }, { on := 17, ground := Go.Ground.data }], guard := none }) (v := ?vad18) rfl (by kernel_rfl) (by kernel_rfl) (by kernel_rfl) (fun _ _ _ h => h) (Or.inl ⟨by rfl, ?had18⟩) hHeld ?rad18
            case had18 => (intro w hSw; (try dsimp only at hSw); go_simp; try with_reducible rfl)
            try simp only [Act.put, List.setIfInBounds_toArray, List.set_cons_zero, List.set_cons_succ]
            refine wpAnyH_take (i := 19) (oi := { dst := some 46, op := Go.Op.move (Go.Operand.tmp 45), type := 4, pos := "l01_geo.go:116", after := #[{ on := 18, ground := Go.Ground.data }, { on := 15, ground := Go.Ground.chain }], guard := none }) (v := ?vad19) rfl (by kernel_rfl) (by kernel_rfl) (by kernel_rfl) (fun _ _ _ h => h) (Or.inl ⟨by rfl, ?had19⟩) hHeld ?rad19
            case had19 => (intro w hSw; (try dsimp only at hSw); go_simp; try with_reducible rfl)
            try simp only [Act.put, List.setIfInBounds_toArray, List.set_cons_zero, List.set_cons_succ]
            refine wpAnyH_take (i := 20) (oi := { dst := some 47, op := Go.Op.load 25 (Go.Operand.tmp 6), type := 25, pos := "l01_geo.go:116", after := #[{ on := 19, ground := Go.Ground.guard }], guard := some (19, true) }) (v := undef) rfl (by kernel_rfl) (by kernel_rfl) (by kernel_rfl) (fun _ _ _ h => h) (Or.inr ⟨by rfl, rfl⟩) hHeld ?_
            try simp only [Act.put, List.setIfInBounds_toArray, List.set_cons_zero, List.set_cons_succ]
            refine wpAnyH_take (i := 21) (oi := { dst := some 48, op := Go.Op.load 25 (Go.Operand.tmp 7), type := 25, pos := "l01_geo.go:116", after := #[{ on := 19, ground := Go.Ground.guard }], guard := some (19, true) }) (v := undef) rfl (by kernel_rfl) (by kernel_rfl) (by kernel_rfl) (fun _ _ _ h => h) (Or.inr ⟨by rfl, rfl⟩) hHeld ?_
            try simp only [Act.put, List.setIfInBounds_toArray, List.set_cons_zero, List.set_cons_succ]
            refine wpAnyH_take (i := 22) (oi := { dst := some 49, op := Go.Op.load 25 (Go.Operand.tmp 4), type := 25, pos := "l01_geo.go:116", after := #[{ on := 19, ground := Go.Ground.guard }], guard := some (19, true) }) (v := undef) rfl (by kernel_rfl) (by kernel_rfl) (by kernel_rfl) (fun _ _ _ h => h) (Or.inr ⟨by rfl, rfl⟩) hHeld ?_
            try simp only [Act.put, List.setIfInBounds_toArray, List.set_cons_zero, List.set_cons_succ]
            refine wpAnyH_take (i := 23) (oi := { dst := some 50, op := Go.Op.call { callee := Go.Callee.value (Go.Operand.func 6), args := #[Go.Operand.tmp 47, Go.Operand.tmp 48, Go.Operand.tmp 49], argTypes := #[25, 25, 25] }, type := 2, pos := "l01_geo.go:118", after := #[{ on := 20, ground := Go.Ground.data }, { on := 21, ground := Go.Ground.data }, { on := 22, ground := Go.Ground.data }, { on := 19, ground := Go.Ground.chain }, { on := 19, ground := Go.Ground.guard }], guard := some (19, true) }) (v := undef) rfl (by kernel_rfl) (by kernel_rfl) (by kernel_rfl) (fun _ _ _ h => h) (Or.inr ⟨by rfl, rfl⟩) hHeld ?_
            try simp only [Act.put, List.setIfInBounds_toArray, List.set_cons_zero, List.set_cons_succ]
            refine wpAnyH_take (i := 24) (oi := { dst := some 51, op := Go.Op.load 25 (Go.Operand.tmp 6), type := 25, pos := "l01_geo.go:116", after := #[{ on := 19, ground := Go.Ground.guard }], guard := some (19, true) }) (v := undef) rfl (by kernel_rfl) (by kernel_rfl) (by kernel_rfl) (fun _ _ _ h => h) (Or.inr ⟨by rfl, rfl⟩) hHeld ?_
            try simp only [Act.put, List.setIfInBounds_toArray, List.set_cons_zero, List.set_cons_succ]
            refine wpAnyH_take (i := 25) (oi := { dst := some 52, op := Go.Op.load 25 (Go.Operand.tmp 7), type := 25, pos := "l01_geo.go:116", after := #[{ on := 19, ground := Go.Ground.guard }], guard := some (19, true) }) (v := undef) rfl (by kernel_rfl) (by kernel_rfl) (by kernel_rfl) (fun _ _ _ h => h) (Or.inr ⟨by rfl, rfl⟩) hHeld ?_
            try simp only [Act.put, List.setIfInBounds_toArray, List.set_cons_zero, List.set_cons_succ]
            refine wpAnyH_take (i := 26) (oi := { dst := some 53, op := Go.Op.load 25 (Go.Operand.tmp 5), type := 25, pos := "l01_geo.go:116", after := #[{ on := 19, ground := Go.Ground.guard }], guard := some (19, true) }) (v := undef) rfl (by kernel_rfl) (by kernel_rfl) (by kernel_rfl) (fun _ _ _ h => h) (Or.inr ⟨by rfl, rfl⟩) hHeld ?_
            try simp only [Act.put, List.setIfInBounds_toArray, List.set_cons_zero, List.set_cons_succ]
            refine wpAnyH_take (i := 27) (oi := { dst := some 54, op := Go.Op.call { callee := Go.Callee.value (Go.Operand.func 6), args := #[Go.Operand.tmp 51, Go.Operand.tmp 52, Go.Operand.tmp 53], argTypes := #[25, 25, 25] }, type := 2, pos := "l01_geo.go:118", after := #[{ on := 24, ground := Go.Ground.data }, { on := 25, ground := Go.Ground.data }, { on := 26, ground := Go.Ground.data }, { on := 23, ground := Go.Ground.chain }, { on := 19, ground := Go.Ground.guard }], guard := some (19, true) }) (v := undef) rfl (by kernel_rfl) (by kernel_rfl) (by kernel_rfl) (fun _ _ _ h => h) (Or.inr ⟨by rfl, rfl⟩) hHeld ?_
            try simp only [Act.put, List.setIfInBounds_toArray, List.set_cons_zero, List.set_cons_succ]
            refine wpAnyH_take (i := 28) (oi := { dst := some 55, op := Go.Op.binOp Go.BinOp.mul 2 (Go.Operand.tmp 50) (Go.Operand.tmp 54) 2, type := 2, pos := "l01_geo.go:116", after := #[{ on := 23, ground := Go.Ground.data }, { on := 27, ground := Go.Ground.data }, { on := 19, ground := Go.Ground.guard }], guard := some (19, true) }) (v := undef) rfl (by kernel_rfl) (by kernel_rfl) (by kernel_rfl) (fun _ _ _ h => h) (Or.inr ⟨by rfl, rfl⟩) hHeld ?_
            try simp only [Act.put, List.setIfInBounds_toArray, List.set_cons_zero, List.set_cons_succ]
            refine wpAnyH_take (i := 29) (oi := { dst := some 56, op := Go.Op.binOp Go.BinOp.leq 2 (Go.Operand.tmp 55) (Go.Operand.const (Go.Value.int Go.IntKind.i64 0)) 2, type := 4, pos := "l01_geo.go:116", after := #[{ on := 28, ground := Go.Ground.data }, { on := 19, ground := Go.Ground.guard }], guard := some (19, true) }) (v := undef) rfl (by kernel_rfl) (by kernel_rfl) (by kernel_rfl) (fun _ _ _ h => h) (Or.inr ⟨by rfl, rfl⟩) hHeld ?_
            try simp only [Act.put, List.setIfInBounds_toArray, List.set_cons_zero, List.set_cons_succ]
            refine wpAnyH_take (i := 30) (oi := { dst := some 57, op := Go.Op.pick (Go.Operand.tmp 46) (Go.Operand.tmp 56) (Go.Operand.const (Go.Value.bool false)), type := 4, pos := "l01_geo.go:116", after := #[{ on := 19, ground := Go.Ground.data }, { on := 29, ground := Go.Ground.data }], guard := none }) (v := ?vad30) rfl (by kernel_rfl) (by kernel_rfl) (by kernel_rfl) (fun _ _ _ h => h) (Or.inl ⟨by rfl, ?had30⟩) hHeld ?rad30
            case had30 => (intro w hSw; (try dsimp only at hSw); go_simp; try with_reducible rfl)
            try simp only [Act.put, List.setIfInBounds_toArray, List.set_cons_zero, List.set_cons_succ]
            refine wpAnyH_take (i := 31) (oi := { dst := some 8, op := Go.Op.assign (Go.Operand.tmp 57), type := 4, pos := "l01_geo.go:116", after := #[{ on := 30, ground := Go.Ground.data }, { on := 27, ground := Go.Ground.chain }, { on := 0, ground := Go.Ground.phase }, { on := 1, ground := Go.Ground.phase }, { on := 2, ground := Go.Ground.phase }, { on := 3, ground := Go.Ground.phase }, { on := 4, ground := Go.Ground.phase }, { on := 5, ground := Go.Ground.phase }, { on := 6, ground := Go.Ground.phase }, { on := 7, ground := Go.Ground.phase }, { on := 8, ground := Go.Ground.phase }, { on := 9, ground := Go.Ground.phase }, { on := 10, ground := Go.Ground.phase }, { on := 11, ground := Go.Ground.phase }, { on := 12, ground := Go.Ground.phase }, { on := 13, ground := Go.Ground.phase }, { on := 14, ground := Go.Ground.phase }, { on := 15, ground := Go.Ground.phase }, { on := 16, ground := Go.Ground.phase }, { on := 17, ground := Go.Ground.phase }, { on := 18, ground := Go.Ground.phase }, { on := 19, ground := Go.Ground.phase }, { on := 20, ground := Go.Ground.phase }, { on := 21, ground := Go.Ground.phase }, { on := 22, ground := Go.Ground.phase }, { on := 23, ground := Go.Ground.phase }, { on := 24, ground := Go.Ground.phase }, { on := 25, ground := Go.Ground.phase }, { on := 26, ground := Go.Ground.phase }, { on := 27, ground := Go.Ground.phase }, { on := 28, ground := Go.Ground.phase }, { on := 29, ground := Go.Ground.phase }, { on := 30, ground := Go.Ground.phase }], guard := none }) (v := ?vad31) rfl (by kernel_rfl) (by kernel_rfl) (by kernel_rfl) (fun _ _ _ h => h) (Or.inl ⟨by rfl, ?had31⟩) hHeld ?rad31
            case had31 => (intro w hSw; (try dsimp only at hSw); go_simp; try with_reducible rfl)
            try simp only [Act.put, List.setIfInBounds_toArray, List.set_cons_zero, List.set_cons_succ]
            refine wpAnyH_done (by kernel_rfl) ?_ _
            refine NoPanic.normal ?_
            go_wp2
            go_ret
            exact ⟨rfl, bel_step (bx4_bel 25 w x0 y0 x1 y1 x2 y2 x3 y3) hHeld⟩
        · have h3 : pok x3 y3 = false := by simpa using h3
          have hd : crossOf x0 y0 x1 y1 x2 y2 x3 y3 = false := by simp [crossOf, h3]
          rw [hd]; clear hd
          have hR := bx4_cells 25 w x0 y0 x1 y1 x2 y2 x3 y3
          go_enter Try.func9, Try.ntmps9
          go_wp2_with fail
          refine (pointOk_any _ _ _).mono ?_
          rintro e w1 ⟨rfl, hb1⟩
          have g1 : Bel (bx4 25 w x0 y0 x1 y1 x2 y2 x3 y3) w1 := hb1
          clear hb1
          go_wp2_with fail
          refine (pointOk_any _ _ _).mono ?_
          rintro e w2 ⟨rfl, hb2⟩
          have g2 : Bel (bx4 25 w x0 y0 x1 y1 x2 y2 x3 y3) w2 := bel_step g1 hb2
          clear hb2
          clear g1
          go_wp2_with fail
          refine (pointOk_any _ _ _).mono ?_
          rintro e w3 ⟨rfl, hb3⟩
          have g3 : Bel (bx4 25 w x0 y0 x1 y1 x2 y2 x3 y3) w3 := bel_step g2 hb3
          clear hb3
          clear g2
          go_wp2_with fail
          refine (pointOk_any _ _ _).mono ?_
          rintro e w4 ⟨rfl, hb4⟩
          have g4 : Bel (bx4 25 w x0 y0 x1 y1 x2 y2 x3 y3) w4 := bel_step g3 hb4
          clear hb4
          clear g3
          go_wp2
          go_ret
          exact ⟨rfl, bel_step (bx4_bel 25 w x0 y0 x1 y1 x2 y2 x3 y3) g4⟩
      · have h2 : pok x2 y2 = false := by simpa using h2
        have hd : crossOf x0 y0 x1 y1 x2 y2 x3 y3 = false := by simp [crossOf, h2]
        rw [hd]; clear hd
        have hR := bx4_cells 25 w x0 y0 x1 y1 x2 y2 x3 y3
        go_enter Try.func9, Try.ntmps9
        go_wp2_with fail
        refine (pointOk_any _ _ _).mono ?_
        rintro e w1 ⟨rfl, hb1⟩
        have g1 : Bel (bx4 25 w x0 y0 x1 y1 x2 y2 x3 y3) w1 := hb1
        clear hb1
        go_wp2_with fail
        refine (pointOk_any _ _ _).mono ?_
        rintro e w2 ⟨rfl, hb2⟩
        have g2 : Bel (bx4 25 w x0 y0 x1 y1 x2 y2 x3 y3) w2 := bel_step g1 hb2
        clear hb2
        clear g1
        go_wp2_with fail
        refine (pointOk_any _ _ _).mono ?_
        rintro e w3 ⟨rfl, hb3⟩
        have g3 : Bel (bx4 25 w x0 y0 x1 y1 x2 y2 x3 y3) w3 := bel_step g2 hb3
        clear hb3
        clear g2
        go_wp2
        go_ret
        exact ⟨rfl, bel_step (bx4_bel 25 w x0 y0 x1 y1 x2 y2 x3 y3) g3⟩
    · have h1 : pok x1 y1 = false := by simpa using h1
      have hd : crossOf x0 y0 x1 y1 x2 y2 x3 y3 = false := by simp [crossOf, h1]
      rw [hd]; clear hd
      have hR := bx4_cells 25 w x0 y0 x1 y1 x2 y2 x3 y3
      go_enter Try.func9, Try.ntmps9
      go_wp2_with fail
      refine (pointOk_any _ _ _).mono ?_
      rintro e w1 ⟨rfl, hb1⟩
      have g1 : Bel (bx4 25 w x0 y0 x1 y1 x2 y2 x3 y3) w1 := hb1
      clear hb1
      go_wp2_with fail
      refine (pointOk_any _ _ _).mono ?_
      rintro e w2 ⟨rfl, hb2⟩
      have g2 : Bel (bx4 25 w x0 y0 x1 y1 x2 y2 x3 y3) w2 := bel_step g1 hb2
      clear hb2
      clear g1
      go_wp2
      go_ret
      exact ⟨rfl, bel_step (bx4_bel 25 w x0 y0 x1 y1 x2 y2 x3 y3) g2⟩
  · have h0 : pok x0 y0 = false := by simpa using h0
    have hd : crossOf x0 y0 x1 y1 x2 y2 x3 y3 = false := by simp [crossOf, h0]
    rw [hd]; clear hd
    have hR := bx4_cells 25 w x0 y0 x1 y1 x2 y2 x3 y3
    go_enter Try.func9, Try.ntmps9
    go_wp2_with fail
    refine (pointOk_any _ _ _).mono ?_
    rintro e w1 ⟨rfl, hb1⟩
    have g1 : Bel (bx4 25 w x0 y0 x1 y1 x2 y2 x3 y3) w1 := hb1
    clear hb1
    go_wp2
    go_ret
    exact ⟨rfl, bel_step (bx4_bel 25 w x0 y0 x1 y1 x2 y2 x3 y3) g1⟩

end Go.Proofs.Ytkncogipffofeaa
