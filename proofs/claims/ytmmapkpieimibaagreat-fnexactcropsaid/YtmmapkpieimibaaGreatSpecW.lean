/-
  Contract of what the model asks of a way: for every way.
-/
import Derived.Test.YtmmapkpieimibaaGreatSpecN
import Derived.Test.YtmmapkpieimibaaGreatTagS
import Derived.Deep.RegionHeld3
namespace Go.Proofs.YtmmapkpieimibaaGreat
open Go.RowKit Go.Maps

structure WokP (n : Nat) (I : Nat → Int) (id : Int) (tg : List TagD) (ns : List Int) : Prop where
  h1 : idB id = true
  h2 : tagsB tg = true
  h3 : WayP n I ns

set_option maxRecDepth 100000 in
set_option maxHeartbeats 4000000 in
theorem l2WayOk_any (v : Value) (m : MapD) (bs : List Nat) (id : Int) (a1 : Option Addr) (n1 c1 : Nat) (ns : List Int) (b1 : List Nat) (a2 : Option Addr) (n2 c2 : Nat) (tg : List TagD) (b2 : List Nat) (w : World) (hV : MapV w v m bs) (hl : m.nodes.length ≤ 5000) (hA : AscP m.nodes.length (nId m.nodes) (nTg m.nodes))
    (t1 : Ints w a1 ns b1) (e1 : ns.length = n1) (m1 : n1 ≤ 1048576) (t2 : Tags w a2 tg b2) (e2 : tg.length = n2) (m2 : n2 ≤ 1048576) :
    Calls Tryz.prog 76 #[v, .agg #[.int .i64 id, .slice a1 n1 c1, .slice a2 n2 c2]] w fun e w' => e = .returned (.bool (bP (WokP m.nodes.length (nId m.nodes) id tg ns))) ∧ Bel w w' := by
  have hV' := hV
  obtain ⟨x0, y0, x1, y1, x2, y2, d0, d1, d2, rfl, _, _, _, _⟩ := hV.out
  clear hV
  obtain ⟨n, hn⟩ : ∃ n, m.nodes.length = n := ⟨_, rfl⟩
  obtain ⟨nw, hnw⟩ : ∃ n, m.ways.length = n := ⟨_, rfl⟩
  obtain ⟨na, hna⟩ : ∃ n, m.areas.length = n := ⟨_, rfl⟩
  obtain ⟨I, hI⟩ : ∃ I, nId m.nodes = I := ⟨_, rfl⟩
  have hN := fun x w0 (h : MapV w0 (.agg #[.slice x0 n y0, .slice x1 nw y1, .slice x2 na y2]) m bs) => (by have := l2Node_any _ m bs x w0 h hl hA; rw [hn, hI] at this; exact this : Calls Tryz.prog 23 #[.agg #[.slice x0 n y0, .slice x1 nw y1, .slice x2 na y2], .int .i64 x] w0 fun e w' => e = .returned (.int .i64 (posI I n x)) ∧ Bel w0 w')
  rw [hn, hnw, hna] at hV' ⊢
  rw [hI]
  have HN : Hid _ := hN
  have E1 : Hid (ns.length = n1) := e1
  clear hN hA hl hn hnw hna hI e1
  obtain ⟨W, HW⟩ : ∃ W, Hid (W = (w.alloc (.cells #[.slice x0 n y0, .slice x1 nw y1, .slice x2 na y2] 36)).alloc (.cells #[.int .i64 id, .slice a1 n1 c1, .slice a2 n2 c2] 62)) := ⟨_, (rfl : _ = _)⟩
  have hB : Bel w W := by rw [HW.out]; exact bel_alloc (bel_alloc (Bel.refl _) _) _
  have X0 : Blk W w.heap.size [.slice x0 n y0, .slice x1 nw y1, .slice x2 na y2] := by rw [HW.out]; exact (Blk.new w [.slice x0 n y0, .slice x1 nw y1, .slice x2 na y2] _).bel (bel_alloc (Bel.refl _) _)
  have X1 : Blk W (w.heap.size + 1) [.int .i64 id, .slice a1 n1 c1, .slice a2 n2 c2] := by rw [HW.out]; exact Blk.new1 w _ [.int .i64 id, .slice a1 n1 c1, .slice a2 n2 c2] _
  cases h1 : idB id
  · have HF : Hid (false = bP (WokP n I id tg ns)) := (bP_false fun h => by have := h.h1; rw [h1] at this; cases this).symm
    go_enter Tryz.func76, Tryz.ntmps76
    go_wp2_with fail
    refine (l2IdOk_any _ _).mono ?_
    rintro e w1 ⟨rfl, rfl⟩
    rw [h1]
    go_wp2
    go_ret
    exact ⟨ret_bl HF.out, bel_alloc (bel_alloc (Bel.refl _) _) _⟩
  cases h2 : tagsB tg
  · have HF : Hid (false = bP (WokP n I id tg ns)) := (bP_false fun h => by have := h.h2; rw [h2] at this; cases this).symm
    go_enter Tryz.func76, Tryz.ntmps76
    go_wp2_with fail
    refine (l2IdOk_any _ _).mono ?_
    rintro e w1 ⟨rfl, rfl⟩
    rw [h1]
    go_wp2_with fail
    rw [← HW.out]
    refine (specTagsOk_any _ _ _ tg b2 _ (t2.bel2 hB) e2 m2).mono ?_
    rintro e w2 ⟨rfl, hb2⟩
    rw [h2]
    go_wp2
    go_ret
    exact ⟨ret_bl HF.out, bel_step hB hb2⟩
  by_cases h3 : 2 ≤ n1 ∧ n1 ≤ 2000
  · obtain ⟨h3, h4⟩ := h3
    go_enter Tryz.func76, Tryz.ntmps76
    go_wp2_with fail
    refine (l2IdOk_any _ _).mono ?_
    rintro e w1 ⟨rfl, rfl⟩
    rw [h1]
    go_wp2_with fail
    rw [← HW.out]
    refine (specTagsOk_any _ _ _ tg b2 _ (t2.bel2 hB) e2 m2).mono ?_
    rintro e w2 ⟨rfl, hb2⟩
    rw [h2]
    have Z0 := X0.bel hb2
    have Z1 := X1.bel hb2
    have z2 : w2.cell? ⟨w.heap.size + 1, 1, none⟩ = some (.slice a1 n1 c1) := Z1.cell 1 (by simp)
    have hB2 := bel_step hB hb2
    clear HW X0 X1 hb2 hB
    go_wp2
    go_loopw [5] (fun i wr => ∃ k : Nat, k ≤ n1 ∧ i = .int .i64 k ∧ Hid (∀ j (h : j < ns.length), j < k → HasI n I ns[j] ∧ (0 < j → ns[j] ≠ ns[j - 1]'(by omega))) ∧ Bel w2 wr) (fun i _ => n1 - (intOf i).toNat)
    case atStart => exact ⟨0, Nat.zero_le _, rfl, (fun j _ hj => absurd hj (Nat.not_lt_zero _) : ∀ j (h : j < ns.length), j < 0 → HasI n I ns[j] ∧ (0 < j → ns[j] ≠ ns[j - 1]'(by omega))), Bel.refl _⟩
    case round =>
      obtain ⟨k, hk, rfl, H, hbel⟩ := hrel
      have hBr := bel_step hB2 hbel
      have Y0 := Z0.bel hbel
      have Y1 := Z1.bel hbel
      have z2r : wr.cell? ⟨w.heap.size + 1, 1, none⟩ = some (.slice a1 n1 c1) := Y1.cell 1 (by simp)
      by_cases hlt : k < n1
      · have hkl : k < ns.length := by rw [E1.out]; exact hlt
        obtain ⟨b, off, f, rfl, hb, hx⟩ := (t1.bel intE hBr).out hkl
        obtain ⟨_, ix, cx⟩ := hx k hkl
        simp only [Nat.mul_one] at cx
        obtain ⟨x, Hx⟩ : ∃ x, Hid (x = ns[k]) := ⟨_, (rfl : ns[k] = _)⟩
        rw [← Hx.out] at cx ix
        have hlt' : (k : Int) < (n1 : Int) := by omega
        cases hp : bP (HasI n I x)
        · have HF : Hid (false = bP (WokP n I id tg ns)) := (bP_false fun h => bP_not hp (by rw [Hx.out]; exact (h.h3.2.2 k hkl).1)).symm
          have hR : ∀ w', Bel wr w' → w'.cell? ⟨w.heap.size, 0, none⟩ = some (.slice x0 n y0) ∧ w'.cell? ⟨w.heap.size, 1, none⟩ = some (.slice x1 nw y1) ∧ w'.cell? ⟨w.heap.size, 2, none⟩ = some (.slice x2 na y2) ∧ w'.cell? ⟨w.heap.size + 1, 1, none⟩ = some (.slice (some ⟨b, off, none⟩) n1 c1) ∧ w'.cell? ⟨b, off + k, none⟩ = some (.int .i64 x) :=
            fun w' h => ⟨(Y0.bel h).cell 0 (by simp), (Y0.bel h).cell 1 (by simp), (Y0.bel h).cell 2 (by simp), (Y1.bel h).cell 1 (by simp), bel_cellM h hb cx⟩
          have hMV : ∀ w', Bel wr w' → MapV w' (.agg #[.slice x0 n y0, .slice x1 nw y1, .slice x2 na y2]) m bs := fun w' h => hV'.bel (bel_step hBr h)
          have g0 : Bel wr wr := Bel.refl _
          have hpos : decide (posI I n x < 0) = true := by rw [posI_none (bP_not hp)]; decide
          clear hx Y0 Y1 cx hb t1 t2
          go_wp2
          refine wp_region_noPanic ?_
          refine wp_region_held_drew (S := fun w' => Bel wr w') (by kernel_rfl) (Bel.drew g0) (fun hHeld => ?_)
          refine wpAnyH_take (i := 0) (oi := { dst := some 35, op := Go.Op.load 36 (Go.Operand.tmp 2), type := 36, pos := "l02_data.go:66", after := #[], guard := none }) (v := ?vab0) rfl (by kernel_rfl) (by kernel_rfl) (by kernel_rfl) (fun _ _ _ h => h) (Or.inl ⟨by rfl, ?hab0⟩) hHeld ?rab0
          case hab0 => (intro w hSw; (try dsimp only at hSw); go_simp; try with_reducible rfl)
          try simp only [Act.put, List.setIfInBounds_toArray, List.set_cons_zero, List.set_cons_succ]
          refine wpAnyH_take (i := 1) (oi := { dst := some 36, op := Go.Op.fieldAddr 62 (Go.Operand.tmp 3) 1, type := 0, pos := "l02_data.go:66", after := #[], guard := none }) (v := ?vab1) rfl (by kernel_rfl) (by kernel_rfl) (by kernel_rfl) (fun _ _ _ h => h) (Or.inl ⟨by rfl, ?hab1⟩) hHeld ?rab1
          case hab1 => (intro w hSw; (try dsimp only at hSw); go_simp; try with_reducible rfl)
          try simp only [Act.put, List.setIfInBounds_toArray, List.set_cons_zero, List.set_cons_succ]
          refine wpAnyH_take (i := 2) (oi := { dst := some 37, op := Go.Op.load 60 (Go.Operand.tmp 36), type := 60, pos := "l02_data.go:66", after := #[{ on := 1, ground := Go.Ground.data }], guard := none }) (v := ?vab2) rfl (by kernel_rfl) (by kernel_rfl) (by kernel_rfl) (fun _ _ _ h => h) (Or.inl ⟨by rfl, ?hab2⟩) hHeld ?rab2
          case hab2 => (intro w hSw; (try dsimp only at hSw); go_simp; try with_reducible rfl)
          try simp only [Act.put, List.setIfInBounds_toArray, List.set_cons_zero, List.set_cons_succ]
          refine wpAnyH_take (i := 3) (oi := { dst := some 38, op := Go.Op.move (Go.Operand.tmp 5), type := 3, pos := "l02_data.go:66", after := #[], guard := none }) (v := ?vab3) rfl (by kernel_rfl) (by kernel_rfl) (by kernel_rfl) (fun _ _ _ h => h) (Or.inl ⟨by rfl, ?hab3⟩) hHeld ?rab3
          case hab3 => (intro w hSw; (try dsimp only at hSw); go_simp; try with_reducible rfl)
          try simp only [Act.put, List.setIfInBounds_toArray, List.set_cons_zero, List.set_cons_succ]
          refine wpAnyH_take (i := 4) (oi := { dst := some 39, op := Go.Op.indexAddr 60 (Go.Operand.tmp 37) (Go.Operand.tmp 38), type := 0, pos := "l02_data.go:66", after := #[{ on := 2, ground := Go.Ground.data }, { on := 3, ground := Go.Ground.data }], guard := none }) (v := ?vab4) rfl (by kernel_rfl) (by kernel_rfl) (by kernel_rfl) (fun _ _ _ h => h) (Or.inl ⟨by rfl, ?hab4⟩) hHeld ?rab4
          case hab4 => (intro w hSw; (try dsimp only at hSw); go_simp; try with_reducible rfl)
          try simp only [Act.put, List.setIfInBounds_toArray, List.set_cons_zero, List.set_cons_succ]
          refine wpAnyH_take (i := 5) (oi := { dst := some 40, op := Go.Op.load 2 (Go.Operand.tmp 39), type := 2, pos := "l02_data.go:66", after := #[{ on := 4, ground := Go.Ground.data }], guard := none }) (v := ?vab5) rfl (by kernel_rfl) (by kernel_rfl) (by kernel_rfl) (fun _ _ _ h => h) (Or.inl ⟨by rfl, ?hab5⟩) hHeld ?rab5
          case hab5 => (intro w hSw; (try dsimp only at hSw); go_simp; try with_reducible rfl)
          try simp only [Act.put, List.setIfInBounds_toArray, List.set_cons_zero, List.set_cons_succ]
          refine wpAnyH_ready (rs := [6]) (by kernel_rfl) (by simp) ?_
          refine AllReadyH.cons (o := { dst := some 41, op := Go.Op.call { callee := Go.Callee.value (Go.Operand.func 23), args := #[Go.Operand.tmp 35, Go.Operand.tmp 40], argTypes := #[36, 2] }, type := 3, pos := "l02_data.go:66", after := #[{ on := 0, ground := Go.Ground.data }, { on := 5, ground := Go.Ground.data }], guard := none }) rfl (fun K hK => ?_) AllReadyH.nil
          go_simp
          refine (HN.out _ _ (hMV _ hHeld)).mono ?_
          rintro e w' ⟨rfl, hbk⟩
          go_wp2_with fail
          refine hK.out _ _ (bel_step hHeld hbk) (fun hHeld' => ?_)
          clear hK K hHeld
          have hHeld := hHeld'
          clear hHeld'
          try simp only [Act.put, List.setIfInBounds_toArray, List.set_cons_zero, List.set_cons_succ]
          refine wpAnyH_take (i := 7) (oi := { dst := some 42, op := Go.Op.binOp Go.BinOp.lss 3 (Go.Operand.tmp 41) (Go.Operand.const (Go.Value.int Go.IntKind.i64 0)) 3, type := 4, pos := "l02_data.go:66", after := #[{ on := 6, ground := Go.Ground.data }], guard := none }) (v := ?vab7) rfl (by kernel_rfl) (by kernel_rfl) (by kernel_rfl) (fun _ _ _ h => h) (Or.inl ⟨by rfl, ?hab7⟩) hHeld ?rab7
          case hab7 => (intro w hSw; (try dsimp only at hSw); go_simp; try with_reducible rfl)
          try simp only [Act.put, List.setIfInBounds_toArray, List.set_cons_zero, List.set_cons_succ]
          refine wpAnyH_take (i := 8) (oi := { dst := some 43, op := Go.Op.move (Go.Operand.tmp 42), type := 4, pos := "l02_data.go:66", after := #[{ on := 7, ground := Go.Ground.data }, { on := 6, ground := Go.Ground.chain }], guard := none }) (v := ?vab8) rfl (by kernel_rfl) (by kernel_rfl) (by kernel_rfl) (fun _ _ _ h => h) (Or.inl ⟨by rfl, ?hab8⟩) hHeld ?rab8
          case hab8 => (intro w hSw; (try dsimp only at hSw); go_simp; try with_reducible rfl)
          try simp only [Act.put, List.setIfInBounds_toArray, List.set_cons_zero, List.set_cons_succ]
          refine wpAnyH_take (i := 9) (oi := { dst := some 44, op := Go.Op.move (Go.Operand.tmp 5), type := 3, pos := "l02_data.go:66", after := #[{ on := 8, ground := Go.Ground.guard }], guard := some (8, false) }) (v := undef) rfl (by kernel_rfl) (by kernel_rfl) (by kernel_rfl) (fun _ _ _ h => h) (Or.inr ⟨by rfl, rfl⟩) hHeld ?_
          try simp only [Act.put, List.setIfInBounds_toArray, List.set_cons_zero, List.set_cons_succ]
          refine wpAnyH_take (i := 10) (oi := { dst := some 45, op := Go.Op.binOp Go.BinOp.gtr 3 (Go.Operand.tmp 44) (Go.Operand.const (Go.Value.int Go.IntKind.i64 0)) 3, type := 4, pos := "l02_data.go:66", after := #[{ on := 9, ground := Go.Ground.data }, { on := 8, ground := Go.Ground.guard }], guard := some (8, false) }) (v := undef) rfl (by kernel_rfl) (by kernel_rfl) (by kernel_rfl) (fun _ _ _ h => h) (Or.inr ⟨by rfl, rfl⟩) hHeld ?_
          try simp only [Act.put, List.setIfInBounds_toArray, List.set_cons_zero, List.set_cons_succ]
          refine wpAnyH_take (i := 11) (oi := { dst := some 46, op := Go.Op.move (Go.Operand.tmp 45), type := 4, pos := "l02_data.go:66", after := #[{ on := 10, ground := Go.Ground.data }, { on := 8, ground := Go.Ground.chain }, { on := 8, ground := Go.Ground.guard }], guard := some (8, false) }) (v := undef) rfl (by kernel_rfl) (by kernel_rfl) (by kernel_rfl) (fun _ _ _ h => h) (Or.inr ⟨by rfl, rfl⟩) hHeld ?_
          try simp only [Act.put, List.setIfInBounds_toArray, List.set_cons_zero, List.set_cons_succ]
          refine wpAnyH_take (i := 12) (oi := { dst := some 47, op := Go.Op.fieldAddr 62 (Go.Operand.tmp 3) 1, type := 0, pos := "l02_data.go:66", after := #[{ on := 11, ground := Go.Ground.guard }], guard := some (11, true) }) (v := undef) rfl (by kernel_rfl) (by kernel_rfl) (by kernel_rfl) (fun _ _ _ h => h) (Or.inr ⟨by rfl, rfl⟩) hHeld ?_
          try simp only [Act.put, List.setIfInBounds_toArray, List.set_cons_zero, List.set_cons_succ]
          refine wpAnyH_take (i := 13) (oi := { dst := some 48, op := Go.Op.load 60 (Go.Operand.tmp 47), type := 60, pos := "l02_data.go:66", after := #[{ on := 12, ground := Go.Ground.data }, { on := 11, ground := Go.Ground.guard }], guard := some (11, true) }) (v := undef) rfl (by kernel_rfl) (by kernel_rfl) (by kernel_rfl) (fun _ _ _ h => h) (Or.inr ⟨by rfl, rfl⟩) hHeld ?_
          try simp only [Act.put, List.setIfInBounds_toArray, List.set_cons_zero, List.set_cons_succ]
          refine wpAnyH_take (i := 14) (oi := { dst := some 49, op := Go.Op.move (Go.Operand.tmp 5), type := 3, pos := "l02_data.go:66", after := #[{ on := 11, ground := Go.Ground.guard }], guard := some (11, true) }) (v := undef) rfl (by kernel_rfl) (by kernel_rfl) (by kernel_rfl) (fun _ _ _ h => h) (Or.inr ⟨by rfl, rfl⟩) hHeld ?_
          try simp only [Act.put, List.setIfInBounds_toArray, List.set_cons_zero, List.set_cons_succ]
          refine wpAnyH_take (i := 15) (oi := { dst := some 50, op := Go.Op.indexAddr 60 (Go.Operand.tmp 48) (Go.Operand.tmp 49), type := 0, pos := "l02_data.go:66", after := #[{ on := 13, ground := Go.Ground.data }, { on := 14, ground := Go.Ground.data }, { on := 11, ground := Go.Ground.guard }], guard := some (11, true) }) (v := undef) rfl (by kernel_rfl) (by kernel_rfl) (by kernel_rfl) (fun _ _ _ h => h) (Or.inr ⟨by rfl, rfl⟩) hHeld ?_
          try simp only [Act.put, List.setIfInBounds_toArray, List.set_cons_zero, List.set_cons_succ]
          refine wpAnyH_take (i := 16) (oi := { dst := some 51, op := Go.Op.load 2 (Go.Operand.tmp 50), type := 2, pos := "l02_data.go:66", after := #[{ on := 15, ground := Go.Ground.data }, { on := 11, ground := Go.Ground.guard }], guard := some (11, true) }) (v := undef) rfl (by kernel_rfl) (by kernel_rfl) (by kernel_rfl) (fun _ _ _ h => h) (Or.inr ⟨by rfl, rfl⟩) hHeld ?_
          try simp only [Act.put, List.setIfInBounds_toArray, List.set_cons_zero, List.set_cons_succ]
          refine wpAnyH_take (i := 17) (oi := { dst := some 52, op := Go.Op.fieldAddr 62 (Go.Operand.tmp 3) 1, type := 0, pos := "l02_data.go:66", after := #[{ on := 11, ground := Go.Ground.guard }], guard := some (11, true) }) (v := undef) rfl (by kernel_rfl) (by kernel_rfl) (by kernel_rfl) (fun _ _ _ h => h) (Or.inr ⟨by rfl, rfl⟩) hHeld ?_
          try simp only [Act.put, List.setIfInBounds_toArray, List.set_cons_zero, List.set_cons_succ]
          refine wpAnyH_take (i := 18) (oi := { dst := some 53, op := Go.Op.load 60 (Go.Operand.tmp 52), type := 60, pos := "l02_data.go:66", after := #[{ on := 17, ground := Go.Ground.data }, { on := 11, ground := Go.Ground.guard }], guard := some (11, true) }) (v := undef) rfl (by kernel_rfl) (by kernel_rfl) (by kernel_rfl) (fun _ _ _ h => h) (Or.inr ⟨by rfl, rfl⟩) hHeld ?_
          try simp only [Act.put, List.setIfInBounds_toArray, List.set_cons_zero, List.set_cons_succ]
          refine wpAnyH_take (i := 19) (oi := { dst := some 54, op := Go.Op.move (Go.Operand.tmp 5), type := 3, pos := "l02_data.go:66", after := #[{ on := 11, ground := Go.Ground.guard }], guard := some (11, true) }) (v := undef) rfl (by kernel_rfl) (by kernel_rfl) (by kernel_rfl) (fun _ _ _ h => h) (Or.inr ⟨by rfl, rfl⟩) hHeld ?_
          try simp only [Act.put, List.setIfInBounds_toArray, List.set_cons_zero, List.set_cons_succ]
          refine wpAnyH_take (i := 20) (oi := { dst := some 55, op := Go.Op.binOp Go.BinOp.sub 3 (Go.Operand.tmp 54) (Go.Operand.const (Go.Value.int Go.IntKind.i64 1)) 3, type := 3, pos := "l02_data.go:66", after := #[{ on := 19, ground := Go.Ground.data }, { on := 11, ground := Go.Ground.guard }], guard := some (11, true) }) (v := undef) rfl (by kernel_rfl) (by kernel_rfl) (by kernel_rfl) (fun _ _ _ h => h) (Or.inr ⟨by rfl, rfl⟩) hHeld ?_
          try simp only [Act.put, List.setIfInBounds_toArray, List.set_cons_zero, List.set_cons_succ]
          refine wpAnyH_take (i := 21) (oi := { dst := some 56, op := Go.Op.indexAddr 60 (Go.Operand.tmp 53) (Go.Operand.tmp 55), type := 0, pos := "l02_data.go:66", after := #[{ on := 18, ground := Go.Ground.data }, { on := 20, ground := Go.Ground.data }, { on := 11, ground := Go.Ground.guard }], guard := some (11, true) }) (v := undef) rfl (by kernel_rfl) (by kernel_rfl) (by kernel_rfl) (fun _ _ _ h => h) (Or.inr ⟨by rfl, rfl⟩) hHeld ?_
          try simp only [Act.put, List.setIfInBounds_toArray, List.set_cons_zero, List.set_cons_succ]
          refine wpAnyH_take (i := 22) (oi := { dst := some 57, op := Go.Op.load 2 (Go.Operand.tmp 56), type := 2, pos := "l02_data.go:66", after := #[{ on := 21, ground := Go.Ground.data }, { on := 11, ground := Go.Ground.guard }], guard := some (11, true) }) (v := undef) rfl (by kernel_rfl) (by kernel_rfl) (by kernel_rfl) (fun _ _ _ h => h) (Or.inr ⟨by rfl, rfl⟩) hHeld ?_
          try simp only [Act.put, List.setIfInBounds_toArray, List.set_cons_zero, List.set_cons_succ]
          refine wpAnyH_take (i := 23) (oi := { dst := some 58, op := Go.Op.binOp Go.BinOp.eql 2 (Go.Operand.tmp 51) (Go.Operand.tmp 57) 2, type := 4, pos := "l02_data.go:66", after := #[{ on := 16, ground := Go.Ground.data }, { on := 22, ground := Go.Ground.data }, { on := 11, ground := Go.Ground.guard }], guard := some (11, true) }) (v := undef) rfl (by kernel_rfl) (by kernel_rfl) (by kernel_rfl) (fun _ _ _ h => h) (Or.inr ⟨by rfl, rfl⟩) hHeld ?_
          try simp only [Act.put, List.setIfInBounds_toArray, List.set_cons_zero, List.set_cons_succ]
          refine wpAnyH_take (i := 24) (oi := { dst := some 59, op := Go.Op.pick (Go.Operand.tmp 46) (Go.Operand.tmp 58) (Go.Operand.const (Go.Value.bool false)), type := 4, pos := "l02_data.go:66", after := #[{ on := 11, ground := Go.Ground.data }, { on := 23, ground := Go.Ground.data }, { on := 8, ground := Go.Ground.guard }], guard := some (8, false) }) (v := undef) rfl (by kernel_rfl) (by kernel_rfl) (by kernel_rfl) (fun _ _ _ h => h) (Or.inr ⟨by rfl, rfl⟩) hHeld ?_
          try simp only [Act.put, List.setIfInBounds_toArray, List.set_cons_zero, List.set_cons_succ]
          refine wpAnyH_take (i := 25) (oi := { dst := some 60, op := Go.Op.pick (Go.Operand.tmp 43) (Go.Operand.const (Go.Value.bool true)) (Go.Operand.tmp 59), type := 4, pos := "l02_data.go:66", after := #[{ on := 8, ground := Go.Ground.data }, { on := 24, ground := Go.Ground.data }], guard := none }) (v := ?vab25) rfl (by kernel_rfl) (by kernel_rfl) (by kernel_rfl) (fun _ _ _ h => h) (Or.inl ⟨by rfl, ?hab25⟩) hHeld ?rab25
          case hab25 => (intro w hSw; (try dsimp only at hSw); go_simp; try with_reducible rfl)
          try simp only [Act.put, List.setIfInBounds_toArray, List.set_cons_zero, List.set_cons_succ]
          refine wpAnyH_done (by kernel_rfl) ?_ _
          refine NoPanic.normal ?_
          go_wp2
          go_ret
          exact ⟨ret_bl HF.out, bel_step hBr hHeld⟩
        · have hpos0 : 0 ≤ posI I n x := (posI_bd I n x).2.2.2 (bP_out hp)
          have hpos : decide (posI I n x < 0) = false := by simp; omega
          rcases k with _ | j
          · have HA : Hid (HasI n I ns[0] ∧ ((0 : Nat) < 0 → ns[0] ≠ ns[0 - 1]'(by omega))) := ⟨by rw [← Hx.out]; exact bP_out hp, fun h => absurd h (Nat.lt_irrefl _)⟩
            have hR : ∀ w', Bel wr w' → w'.cell? ⟨w.heap.size, 0, none⟩ = some (.slice x0 n y0) ∧ w'.cell? ⟨w.heap.size, 1, none⟩ = some (.slice x1 nw y1) ∧ w'.cell? ⟨w.heap.size, 2, none⟩ = some (.slice x2 na y2) ∧ w'.cell? ⟨w.heap.size + 1, 1, none⟩ = some (.slice (some ⟨b, off, none⟩) n1 c1) ∧ w'.cell? ⟨b, off, none⟩ = some (.int .i64 x) :=
              fun w' h => ⟨(Y0.bel h).cell 0 (by simp), (Y0.bel h).cell 1 (by simp), (Y0.bel h).cell 2 (by simp), (Y1.bel h).cell 1 (by simp), bel_cellM h hb (by simpa using cx)⟩
            have hMV : ∀ w', Bel wr w' → MapV w' (.agg #[.slice x0 n y0, .slice x1 nw y1, .slice x2 na y2]) m bs := fun w' h => hV'.bel (bel_step hBr h)
            have g0 : Bel wr wr := Bel.refl _
            clear hx Y0 Y1 cx hb t1 t2
            go_wp2
            refine wp_region_noPanic ?_
            refine wp_region_held_drew (S := fun w' => Bel wr w') (by kernel_rfl) (Bel.drew g0) (fun hHeld => ?_)
            refine wpAnyH_take (i := 0) (oi := { dst := some 35, op := Go.Op.load 36 (Go.Operand.tmp 2), type := 36, pos := "l02_data.go:66", after := #[], guard := none }) (v := ?vac0) rfl (by kernel_rfl) (by kernel_rfl) (by kernel_rfl) (fun _ _ _ h => h) (Or.inl ⟨by rfl, ?hac0⟩) hHeld ?rac0
            case hac0 => (intro w hSw; (try dsimp only at hSw); go_simp; try with_reducible rfl)
            try simp only [Act.put, List.setIfInBounds_toArray, List.set_cons_zero, List.set_cons_succ]
            refine wpAnyH_take (i := 1) (oi := { dst := some 36, op := Go.Op.fieldAddr 62 (Go.Operand.tmp 3) 1, type := 0, pos := "l02_data.go:66", after := #[], guard := none }) (v := ?vac1) rfl (by kernel_rfl) (by kernel_rfl) (by kernel_rfl) (fun _ _ _ h => h) (Or.inl ⟨by rfl, ?hac1⟩) hHeld ?rac1
            case hac1 => (intro w hSw; (try dsimp only at hSw); go_simp; try with_reducible rfl)
            try simp only [Act.put, List.setIfInBounds_toArray, List.set_cons_zero, List.set_cons_succ]
            refine wpAnyH_take (i := 2) (oi := { dst := some 37, op := Go.Op.load 60 (Go.Operand.tmp 36), type := 60, pos := "l02_data.go:66", after := #[{ on := 1, ground := Go.Ground.data }], guard := none }) (v := ?vac2) rfl (by kernel_rfl) (by kernel_rfl) (by kernel_rfl) (fun _ _ _ h => h) (Or.inl ⟨by rfl, ?hac2⟩) hHeld ?rac2
            case hac2 => (intro w hSw; (try dsimp only at hSw); go_simp; try with_reducible rfl)
            try simp only [Act.put, List.setIfInBounds_toArray, List.set_cons_zero, List.set_cons_succ]
            refine wpAnyH_take (i := 3) (oi := { dst := some 38, op := Go.Op.move (Go.Operand.tmp 5), type := 3, pos := "l02_data.go:66", after := #[], guard := none }) (v := ?vac3) rfl (by kernel_rfl) (by kernel_rfl) (by kernel_rfl) (fun _ _ _ h => h) (Or.inl ⟨by rfl, ?hac3⟩) hHeld ?rac3
            case hac3 => (intro w hSw; (try dsimp only at hSw); go_simp; try with_reducible rfl)
            try simp only [Act.put, List.setIfInBounds_toArray, List.set_cons_zero, List.set_cons_succ]
            refine wpAnyH_take (i := 4) (oi := { dst := some 39, op := Go.Op.indexAddr 60 (Go.Operand.tmp 37) (Go.Operand.tmp 38), type := 0, pos := "l02_data.go:66", after := #[{ on := 2, ground := Go.Ground.data }, { on := 3, ground := Go.Ground.data }], guard := none }) (v := ?vac4) rfl (by kernel_rfl) (by kernel_rfl) (by kernel_rfl) (fun _ _ _ h => h) (Or.inl ⟨by rfl, ?hac4⟩) hHeld ?rac4
            case hac4 => (intro w hSw; (try dsimp only at hSw); go_simp; try with_reducible rfl)
            try simp only [Act.put, List.setIfInBounds_toArray, List.set_cons_zero, List.set_cons_succ]
            refine wpAnyH_take (i := 5) (oi := { dst := some 40, op := Go.Op.load 2 (Go.Operand.tmp 39), type := 2, pos := "l02_data.go:66", after := #[{ on := 4, ground := Go.Ground.data }], guard := none }) (v := ?vac5) rfl (by kernel_rfl) (by kernel_rfl) (by kernel_rfl) (fun _ _ _ h => h) (Or.inl ⟨by rfl, ?hac5⟩) hHeld ?rac5
            case hac5 => (intro w hSw; (try dsimp only at hSw); go_simp; try with_reducible rfl)
            try simp only [Act.put, List.setIfInBounds_toArray, List.set_cons_zero, List.set_cons_succ]
            refine wpAnyH_ready (rs := [6]) (by kernel_rfl) (by simp) ?_
            refine AllReadyH.cons (o := { dst := some 41, op := Go.Op.call { callee := Go.Callee.value (Go.Operand.func 23), args := #[Go.Operand.tmp 35, Go.Operand.tmp 40], argTypes := #[36, 2] }, type := 3, pos := "l02_data.go:66", after := #[{ on := 0, ground := Go.Ground.data }, { on := 5, ground := Go.Ground.data }], guard := none }) rfl (fun K hK => ?_) AllReadyH.nil
            go_simp
            refine (HN.out _ _ (hMV _ hHeld)).mono ?_
            rintro e w' ⟨rfl, hbk⟩
            go_wp2_with fail
            refine hK.out _ _ (bel_step hHeld hbk) (fun hHeld' => ?_)
            clear hK K hHeld
            have hHeld := hHeld'
            clear hHeld'
            try simp only [Act.put, List.setIfInBounds_toArray, List.set_cons_zero, List.set_cons_succ]
            refine wpAnyH_take (i := 7) (oi := { dst := some 42, op := Go.Op.binOp Go.BinOp.lss 3 (Go.Operand.tmp 41) (Go.Operand.const (Go.Value.int Go.IntKind.i64 0)) 3, type := 4, pos := "l02_data.go:66", after := #[{ on := 6, ground := Go.Ground.data }], guard := none }) (v := ?vac7) rfl (by kernel_rfl) (by kernel_rfl) (by kernel_rfl) (fun _ _ _ h => h) (Or.inl ⟨by rfl, ?hac7⟩) hHeld ?rac7
            case hac7 => (intro w hSw; (try dsimp only at hSw); go_simp; try with_reducible rfl)
            try simp only [Act.put, List.setIfInBounds_toArray, List.set_cons_zero, List.set_cons_succ]
            refine wpAnyH_take (i := 8) (oi := { dst := some 43, op := Go.Op.move (Go.Operand.tmp 42), type := 4, pos := "l02_data.go:66", after := #[{ on := 7, ground := Go.Ground.data }, { on := 6, ground := Go.Ground.chain }], guard := none }) (v := ?vac8) rfl (by kernel_rfl) (by kernel_rfl) (by kernel_rfl) (fun _ _ _ h => h) (Or.inl ⟨by rfl, ?hac8⟩) hHeld ?rac8
            case hac8 => (intro w hSw; (try dsimp only at hSw); go_simp; try with_reducible rfl)
            try simp only [Act.put, List.setIfInBounds_toArray, List.set_cons_zero, List.set_cons_succ]
            refine wpAnyH_take (i := 9) (oi := { dst := some 44, op := Go.Op.move (Go.Operand.tmp 5), type := 3, pos := "l02_data.go:66", after := #[{ on := 8, ground := Go.Ground.guard }], guard := some (8, false) }) (v := ?vac9) rfl (by kernel_rfl) (by kernel_rfl) (by kernel_rfl) (fun _ _ _ h => h) (Or.inl ⟨by rfl, ?hac9⟩) hHeld ?rac9
            case hac9 => (intro w hSw; (try dsimp only at hSw); go_simp; try with_reducible rfl)
            try simp only [Act.put, List.setIfInBounds_toArray, List.set_cons_zero, List.set_cons_succ]
            refine wpAnyH_take (i := 10) (oi := { dst := some 45, op := Go.Op.binOp Go.BinOp.gtr 3 (Go.Operand.tmp 44) (Go.Operand.const (Go.Value.int Go.IntKind.i64 0)) 3, type := 4, pos := "l02_data.go:66", after := #[{ on := 9, ground := Go.Ground.data }, { on := 8, ground := Go.Ground.guard }], guard := some (8, false) }) (v := ?vac10) rfl (by kernel_rfl) (by kernel_rfl) (by kernel_rfl) (fun _ _ _ h => h) (Or.inl ⟨by rfl, ?hac10⟩) hHeld ?rac10
            case hac10 => (intro w hSw; (try dsimp only at hSw); go_simp; try with_reducible rfl)
            try simp only [Act.put, List.setIfInBounds_toArray, List.set_cons_zero, List.set_cons_succ]
            refine wpAnyH_take (i := 11) (oi := { dst := some 46, op := Go.Op.move (Go.Operand.tmp 45), type := 4, pos := "l02_data.go:66", after := #[{ on := 10, ground := Go.Ground.data }, { on := 8, ground := Go.Ground.chain }, { on := 8, ground := Go.Ground.guard }], guard := some (8, false) }) (v := ?vac11) rfl (by kernel_rfl) (by kernel_rfl) (by kernel_rfl) (fun _ _ _ h => h) (Or.inl ⟨by rfl, ?hac11⟩) hHeld ?rac11
            case hac11 => (intro w hSw; (try dsimp only at hSw); go_simp; try with_reducible rfl)
            try simp only [Act.put, List.setIfInBounds_toArray, List.set_cons_zero, List.set_cons_succ]
            refine wpAnyH_take (i := 12) (oi := { dst := some 47, op := Go.Op.fieldAddr 62 (Go.Operand.tmp 3) 1, type := 0, pos := "l02_data.go:66", after := #[{ on := 11, ground := Go.Ground.guard }], guard := some (11, true) }) (v := undef) rfl (by kernel_rfl) (by kernel_rfl) (by kernel_rfl) (fun _ _ _ h => h) (Or.inr ⟨by rfl, rfl⟩) hHeld ?_
            try simp only [Act.put, List.setIfInBounds_toArray, List.set_cons_zero, List.set_cons_succ]
            refine wpAnyH_take (i := 13) (oi := { dst := some 48, op := Go.Op.load 60 (Go.Operand.tmp 47), type := 60, pos := "l02_data.go:66", after := #[{ on := 12, ground := Go.Ground.data }, { on := 11, ground := Go.Ground.guard }], guard := some (11, true) }) (v := undef) rfl (by kernel_rfl) (by kernel_rfl) (by kernel_rfl) (fun _ _ _ h => h) (Or.inr ⟨by rfl, rfl⟩) hHeld ?_
            try simp only [Act.put, List.setIfInBounds_toArray, List.set_cons_zero, List.set_cons_succ]
            refine wpAnyH_take (i := 14) (oi := { dst := some 49, op := Go.Op.move (Go.Operand.tmp 5), type := 3, pos := "l02_data.go:66", after := #[{ on := 11, ground := Go.Ground.guard }], guard := some (11, true) }) (v := undef) rfl (by kernel_rfl) (by kernel_rfl) (by kernel_rfl) (fun _ _ _ h => h) (Or.inr ⟨by rfl, rfl⟩) hHeld ?_
            try simp only [Act.put, List.setIfInBounds_toArray, List.set_cons_zero, List.set_cons_succ]
            refine wpAnyH_take (i := 15) (oi := { dst := some 50, op := Go.Op.indexAddr 60 (Go.Operand.tmp 48) (Go.Operand.tmp 49), type := 0, pos := "l02_data.go:66", after := #[{ on := 13, ground := Go.Ground.data }, { on := 14, ground := Go.Ground.data }, { on := 11, ground := Go.Ground.guard }], guard := some (11, true) }) (v := undef) rfl (by kernel_rfl) (by kernel_rfl) (by kernel_rfl) (fun _ _ _ h => h) (Or.inr ⟨by rfl, rfl⟩) hHeld ?_
            try simp only [Act.put, List.setIfInBounds_toArray, List.set_cons_zero, List.set_cons_succ]
            refine wpAnyH_take (i := 16) (oi := { dst := some 51, op := Go.Op.load 2 (Go.Operand.tmp 50), type := 2, pos := "l02_data.go:66", after := #[{ on := 15, ground := Go.Ground.data }, { on := 11, ground := Go.Ground.guard }], guard := some (11, true) }) (v := undef) rfl (by kernel_rfl) (by kernel_rfl) (by kernel_rfl) (fun _ _ _ h => h) (Or.inr ⟨by rfl, rfl⟩) hHeld ?_
            try simp only [Act.put, List.setIfInBounds_toArray, List.set_cons_zero, List.set_cons_succ]
            refine wpAnyH_take (i := 17) (oi := { dst := some 52, op := Go.Op.fieldAddr 62 (Go.Operand.tmp 3) 1, type := 0, pos := "l02_data.go:66", after := #[{ on := 11, ground := Go.Ground.guard }], guard := some (11, true) }) (v := undef) rfl (by kernel_rfl) (by kernel_rfl) (by kernel_rfl) (fun _ _ _ h => h) (Or.inr ⟨by rfl, rfl⟩) hHeld ?_
            try simp only [Act.put, List.setIfInBounds_toArray, List.set_cons_zero, List.set_cons_succ]
            refine wpAnyH_take (i := 18) (oi := { dst := some 53, op := Go.Op.load 60 (Go.Operand.tmp 52), type := 60, pos := "l02_data.go:66", after := #[{ on := 17, ground := Go.Ground.data }, { on := 11, ground := Go.Ground.guard }], guard := some (11, true) }) (v := undef) rfl (by kernel_rfl) (by kernel_rfl) (by kernel_rfl) (fun _ _ _ h => h) (Or.inr ⟨by rfl, rfl⟩) hHeld ?_
            try simp only [Act.put, List.setIfInBounds_toArray, List.set_cons_zero, List.set_cons_succ]
            refine wpAnyH_take (i := 19) (oi := { dst := some 54, op := Go.Op.move (Go.Operand.tmp 5), type := 3, pos := "l02_data.go:66", after := #[{ on := 11, ground := Go.Ground.guard }], guard := some (11, true) }) (v := undef) rfl (by kernel_rfl) (by kernel_rfl) (by kernel_rfl) (fun _ _ _ h => h) (Or.inr ⟨by rfl, rfl⟩) hHeld ?_
            try simp only [Act.put, List.setIfInBounds_toArray, List.set_cons_zero, List.set_cons_succ]
            refine wpAnyH_take (i := 20) (oi := { dst := some 55, op := Go.Op.binOp Go.BinOp.sub 3 (Go.Operand.tmp 54) (Go.Operand.const (Go.Value.int Go.IntKind.i64 1)) 3, type := 3, pos := "l02_data.go:66", after := #[{ on := 19, ground := Go.Ground.data }, { on := 11, ground := Go.Ground.guard }], guard := some (11, true) }) (v := undef) rfl (by kernel_rfl) (by kernel_rfl) (by kernel_rfl) (fun _ _ _ h => h) (Or.inr ⟨by rfl, rfl⟩) hHeld ?_
            try simp only [Act.put, List.setIfInBounds_toArray, List.set_cons_zero, List.set_cons_succ]
            refine wpAnyH_take (i := 21) (oi := { dst := some 56, op := Go.Op.indexAddr 60 (Go.Operand.tmp 53) (Go.Operand.tmp 55), type := 0, pos := "l02_data.go:66", after := #[{ on := 18, ground := Go.Ground.data }, { on := 20, ground := Go.Ground.data }, { on := 11, ground := Go.Ground.guard }], guard := some (11, true) }) (v := undef) rfl (by kernel_rfl) (by kernel_rfl) (by kernel_rfl) (fun _ _ _ h => h) (Or.inr ⟨by rfl, rfl⟩) hHeld ?_
            try simp only [Act.put, List.setIfInBounds_toArray, List.set_cons_zero, List.set_cons_succ]
            refine wpAnyH_take (i := 22) (oi := { dst := some 57, op := Go.Op.load 2 (Go.Operand.tmp 56), type := 2, pos := "l02_data.go:66", after := #[{ on := 21, ground := Go.Ground.data }, { on := 11, ground := Go.Ground.guard }], guard := some (11, true) }) (v := undef) rfl (by kernel_rfl) (by kernel_rfl) (by kernel_rfl) (fun _ _ _ h => h) (Or.inr ⟨by rfl, rfl⟩) hHeld ?_
            try simp only [Act.put, List.setIfInBounds_toArray, List.set_cons_zero, List.set_cons_succ]
            refine wpAnyH_take (i := 23) (oi := { dst := some 58, op := Go.Op.binOp Go.BinOp.eql 2 (Go.Operand.tmp 51) (Go.Operand.tmp 57) 2, type := 4, pos := "l02_data.go:66", after := #[{ on := 16, ground := Go.Ground.data }, { on := 22, ground := Go.Ground.data }, { on := 11, ground := Go.Ground.guard }], guard := some (11, true) }) (v := undef) rfl (by kernel_rfl) (by kernel_rfl) (by kernel_rfl) (fun _ _ _ h => h) (Or.inr ⟨by rfl, rfl⟩) hHeld ?_
            try simp only [Act.put, List.setIfInBounds_toArray, List.set_cons_zero, List.set_cons_succ]
            refine wpAnyH_take (i := 24) (oi := { dst := some 59, op := Go.Op.pick (Go.Operand.tmp 46) (Go.Operand.tmp 58) (Go.Operand.const (Go.Value.bool false)), type := 4, pos := "l02_data.go:66", after := #[{ on := 11, ground := Go.Ground.data }, { on := 23, ground := Go.Ground.data }, { on := 8, ground := Go.Ground.guard }], guard := some (8, false) }) (v := ?vac24) rfl (by kernel_rfl) (by kernel_rfl) (by kernel_rfl) (fun _ _ _ h => h) (Or.inl ⟨by rfl, ?hac24⟩) hHeld ?rac24
            case hac24 => (intro w hSw; (try dsimp only at hSw); go_simp; try with_reducible rfl)
            try simp only [Act.put, List.setIfInBounds_toArray, List.set_cons_zero, List.set_cons_succ]
            refine wpAnyH_take (i := 25) (oi := { dst := some 60, op := Go.Op.pick (Go.Operand.tmp 43) (Go.Operand.const (Go.Value.bool true)) (Go.Operand.tmp 59), type := 4, pos := "l02_data.go:66", after := #[{ on := 8, ground := Go.Ground.data }, { on := 24, ground := Go.Ground.data }], guard := none }) (v := ?vac25) rfl (by kernel_rfl) (by kernel_rfl) (by kernel_rfl) (fun _ _ _ h => h) (Or.inl ⟨by rfl, ?hac25⟩) hHeld ?rac25
            case hac25 => (intro w hSw; (try dsimp only at hSw); go_simp; try with_reducible rfl)
            try simp only [Act.put, List.setIfInBounds_toArray, List.set_cons_zero, List.set_cons_succ]
            refine wpAnyH_done (by kernel_rfl) ?_ _
            refine NoPanic.normal ?_
            go_wp2
            go_roundw
            case rel => exact ⟨1, by omega, by go_num, (fun j h hj => by obtain rfl : j = 0 := by omega
                                                                         exact HA.out : ∀ j (h : j < ns.length), j < 1 → HasI n I ns[j] ∧ (0 < j → ns[j] ≠ ns[j - 1]'(by omega))), bel_step hbel hHeld⟩
            case measure => simp [intOf]; omega
          · obtain ⟨_, iy, cy⟩ := hx j (by omega)
            simp only [Nat.mul_one] at cy
            obtain ⟨y, Hy⟩ : ∃ y, Hid (y = ns[j]'(by omega)) := ⟨_, (rfl : ns[j]'(by omega) = _)⟩
            rw [← Hy.out] at cy iy
            have hltj : (j : Int) < (n1 : Int) := by omega
            have hj1 : IntKind.i64.wrap (j : Int) = j := by rw [IntKind.wrap_i64]; omega
            have hltk : (j : Int) + 1 < (n1 : Int) := by omega
            have hj0 : (0 : Int) ≤ (j : Int) := by omega
            have hj2 : (0 : Int) ≤ (j : Int) + 1 := by omega
            have hj3 : (0 : Int) < (j : Int) + 1 := by omega
            have htn : ((j : Int) + 1).toNat = j + 1 := by omega
            have hR : ∀ w', Bel wr w' → w'.cell? ⟨w.heap.size, 0, none⟩ = some (.slice x0 n y0) ∧ w'.cell? ⟨w.heap.size, 1, none⟩ = some (.slice x1 nw y1) ∧ w'.cell? ⟨w.heap.size, 2, none⟩ = some (.slice x2 na y2) ∧ w'.cell? ⟨w.heap.size + 1, 1, none⟩ = some (.slice (some ⟨b, off, none⟩) n1 c1) ∧ w'.cell? ⟨b, off + (j + 1), none⟩ = some (.int .i64 x) ∧ w'.cell? ⟨b, off + j, none⟩ = some (.int .i64 y) :=
              fun w' h => ⟨(Y0.bel h).cell 0 (by simp), (Y0.bel h).cell 1 (by simp), (Y0.bel h).cell 2 (by simp), (Y1.bel h).cell 1 (by simp), bel_cellM h hb cx, bel_cellM h hb cy⟩
            have hMV : ∀ w', Bel wr w' → MapV w' (.agg #[.slice x0 n y0, .slice x1 nw y1, .slice x2 na y2]) m bs := fun w' h => hV'.bel (bel_step hBr h)
            have g0 : Bel wr wr := Bel.refl _
            by_cases hxy : x = y
            · have HF : Hid (false = bP (WokP n I id tg ns)) := (bP_false fun h => by
                have := (h.h3.2.2 (j + 1) hkl).2 (Nat.succ_pos _)
                simp only [Nat.add_sub_cancel] at this
                exact this (by rw [← Hx.out, ← Hy.out]; exact hxy)).symm
              subst hxy
              clear hx Y0 Y1 cx cy hb t1 t2 Hy
              go_wp2
              go_region_held3 (fun w' => Bel wr w') (with_reducible (repeat (first | assumption | exact g0 | refine Bel.drew ?_ | refine bel_then (by assumption) ?_)))
                (first
                  | (go_at_call 23; refine (HN.out _ _ (hMV _ (by assumption))).mono ?_; rintro e w' ⟨rfl, hbk⟩))
              have hH : Bel wr w' := by assumption
              go_wp2
              go_ret
              exact ⟨ret_bl HF.out, bel_step hBr hH⟩
            · have HA : Hid (HasI n I ns[j + 1] ∧ (0 < j + 1 → ns[j + 1] ≠ ns[j + 1 - 1]'(by omega))) := ⟨by rw [← Hx.out]; exact bP_out hp, fun _ => by simp only [Nat.add_sub_cancel]; rw [← Hx.out, ← Hy.out]; exact hxy⟩
              have hxy' : (x == y) = false := by simp [hxy]
              clear hx Y0 Y1 cx cy hb t1 t2
              go_wp2
              go_region_held3 (fun w' => Bel wr w') (with_reducible (repeat (first | assumption | exact g0 | refine Bel.drew ?_ | refine bel_then (by assumption) ?_)))
                (first
                  | (go_at_call 23; refine (HN.out _ _ (hMV _ (by assumption))).mono ?_; rintro e w' ⟨rfl, hbk⟩))
              have hH : Bel wr w' := by assumption
              go_wp2
              go_roundw
              case rel => exact ⟨j + 2, by omega, by go_num, (fun i h hj => by
                  by_cases e : i = j + 1
                  · subst e; exact HA.out
                  · exact H.out i h (by omega) : ∀ i (h : i < ns.length), i < j + 2 → HasI n I ns[i] ∧ (0 < i → ns[i] ≠ ns[i - 1]'(by omega))), bel_step hbel hH⟩
              case measure => simp [intOf]; omega
      · have HT : Hid (true = bP (WokP n I id tg ns)) := (bP_true ⟨h1, h2, by rw [E1.out]; exact h3, by rw [E1.out]; exact h4, fun j h => H.out j h (by rw [E1.out] at h; omega)⟩).symm
        go_wp2
        go_ret
        exact ⟨ret_bl HT.out, hBr⟩
  · have HF : Hid (false = bP (WokP n I id tg ns)) := (bP_false fun h => h3 (by rw [← E1.out]; exact ⟨h.h3.1, h.h3.2.1⟩)).symm
    by_cases h4 : 2 ≤ n1
    · have h5 : ¬ n1 ≤ 2000 := fun h => h3 ⟨h4, h⟩
      clear h3
      go_enter Tryz.func76, Tryz.ntmps76
      go_wp2_with fail
      refine (l2IdOk_any _ _).mono ?_
      rintro e w1 ⟨rfl, rfl⟩
      rw [h1]
      go_wp2_with fail
      rw [← HW.out]
      refine (specTagsOk_any _ _ _ tg b2 _ (t2.bel2 hB) e2 m2).mono ?_
      rintro e w2 ⟨rfl, hb2⟩
      rw [h2]
      have Z1 := X1.bel hb2
      have z2 : w2.cell? ⟨w.heap.size + 1, 1, none⟩ = some (.slice a1 n1 c1) := Z1.cell 1 (by simp)
      go_wp2
      go_ret
      exact ⟨ret_bl HF.out, bel_step hB hb2⟩
    · clear h3
      go_enter Tryz.func76, Tryz.ntmps76
      go_wp2_with fail
      refine (l2IdOk_any _ _).mono ?_
      rintro e w1 ⟨rfl, rfl⟩
      rw [h1]
      go_wp2_with fail
      rw [← HW.out]
      refine (specTagsOk_any _ _ _ tg b2 _ (t2.bel2 hB) e2 m2).mono ?_
      rintro e w2 ⟨rfl, hb2⟩
      rw [h2]
      have Z1 := X1.bel hb2
      have z2 : w2.cell? ⟨w.heap.size + 1, 1, none⟩ = some (.slice a1 n1 c1) := Z1.cell 1 (by simp)
      go_wp2
      go_ret
      exact ⟨ret_bl HF.out, bel_step hB hb2⟩
end Go.Proofs.YtmmapkpieimibaaGreat

