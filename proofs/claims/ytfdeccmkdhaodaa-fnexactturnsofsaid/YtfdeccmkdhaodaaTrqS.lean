/-
  Which roads may follow one, in the model: contract.
-/
import Derived.Test.YtfdeccmkdhaodaaBndS
namespace Go.Proofs.Ytfdeccmkdhaodaa
open Go.RowKit Go.Maps

theorem bel_none' {w w' : World} (h : Bel w w') : w.grownBy w' none := ⟨h.out.os, h.out.tape, h.out.output, h.out.size, fun k hk _ => h.out.block k hk⟩
set_option maxRecDepth 100000 in
set_option maxHeartbeats 4000000 in
theorem specTurnsOf_any (v : Value) (g : GraphD) (bs : List Nat) (x : Int) (w : World) (hV : GphV w v g bs) (hQ : GphQ g) :
    Calls Try.prog 23 #[v, .int .i64 x] w fun e w' => ∃ v', e = .returned v' ∧ OwnI w.heap.size w' v' (trnQ g x) ∧ Bel w w' := by
  obtain ⟨i0, hi0, hz0, hz1, hz2⟩ := info_parts infoI
  have hV' := hV
  obtain ⟨a0, c0, a1, c1, a2, c2, b0, b1, b2, _, rfl, t0, t1, t2⟩ := hV
  obtain ⟨n0, H0⟩ : ∃ n, Hid (g.places.length = n) := ⟨_, (rfl : g.places.length = _)⟩
  obtain ⟨n1, H1⟩ : ∃ n, Hid (g.roads.length = n) := ⟨_, (rfl : g.roads.length = _)⟩
  obtain ⟨n2, H2⟩ : ∃ n, Hid (g.bans.length = n) := ⟨_, (rfl : g.bans.length = _)⟩
  rw [H0.out, H1.out, H2.out] at hV' ⊢
  obtain ⟨W, HW⟩ : ∃ W, Hid (W = w.alloc (.cells #[.slice a0 n0 c0, .slice a1 n1 c1, .slice a2 n2 c2] 33)) := ⟨_, (rfl : w.alloc (.cells #[.slice a0 n0 c0, .slice a1 n1 c1, .slice a2 n2 c2] 33) = _)⟩
  have hBW : Bel w W := by rw [HW.out]; exact bel_alloc (Bel.refl _) _
  have X0 : Blk W w.heap.size [.slice a0 n0 c0, .slice a1 n1 c1, .slice a2 n2 c2] := by rw [HW.out]; exact Blk.new w [.slice a0 n0 c0, .slice a1 n1 c1, .slice a2 n2 c2] _
  have hVW : GphV (W.alloc (.cells #[] 2)) (.agg #[.slice a0 n0 c0, .slice a1 n1 c1, .slice a2 n2 c2]) g bs := hV'.bel (bel_alloc hBW _)
  have hB0 : Bel W (W.alloc (.cells #[] 2)) := bel_alloc (Bel.refl _) _
  have hWs : W.heap.size = w.heap.size + 1 := by rw [HW.out]; simp
  have O0 : OwnI W.heap.size (W.alloc (.cells #[] 2)) (.slice (some ⟨w.heap.size + 1, 0, none⟩) 0 0) [] := by
    have h : OwnI W.heap.size (W.alloc (.cells #[] 2)) (.slice (some ⟨W.heap.size, 0, none⟩) 0 0) [] := World.ownsRow_lit W #[] 0 (Nat.le_refl _) (Nat.zero_le _) rfl
    rwa [show (⟨W.heap.size, 0, none⟩ : Addr) = ⟨w.heap.size + 1, 0, none⟩ from by rw [hWs]] at h
  clear hWs
  clear t0
  go_enter Try.func23, Try.ntmps23
  go_wp2_with fail
  rw [← HW.out]
  refine (specGraphOk_any _ g bs _ hVW hQ).mono ?_
  rintro e w1 ⟨rfl, hb1⟩
  have O1 : OwnI W.heap.size w1 (.slice (some ⟨w.heap.size + 1, 0, none⟩) 0 0) [] := World.ownsRow.kept O0 (bel_none' hb1) (Classical.em _)
  have hB1 := bel_step hB0 hb1
  have hB : Bel w w1 := bel_step hBW hB1
  have XG1 := X0.bel hB1
  have y1 : w1.cell? ⟨w.heap.size, 1, none⟩ = some (.slice a1 n1 c1) := XG1.cell 1 (by simp)
  have yl := XG1.lt
  have HO1 : Hid (OwnI w.heap.size w1 (.slice (some ⟨w.heap.size + 1, 0, none⟩) 0 0) []) := own_base O1 hBW.out.size
  clear hVW O0 hB0 hb1 HW XG1
  by_cases hP : graphP g
  rotate_left
  · have HQQ : Hid (trnQ g x = []) := trnQ_no (fun h => hP h.1)
    rw [bP_false hP]
    go_wp2
    go_ret
    exact ⟨_, rfl, by rw [HQQ.out]; exact HO1.out, hB⟩
  rw [bP_true hP]
  by_cases hx0 : x < 0
  · have HQQ : Hid (trnQ g x = []) := trnQ_no (fun h => by have := (inN_iff.1 h.2).1; omega)
    go_wp2
    go_ret
    exact ⟨_, rfl, by rw [HQQ.out]; exact HO1.out, hB⟩
  by_cases hx1 : (n1 : Int) ≤ x
  · have HQQ : Hid (trnQ g x = []) := trnQ_no (fun h => by have := (inN_iff.1 h.2).2; rw [H1.out] at this; omega)
    go_wp2
    go_ret
    exact ⟨_, rfl, by rw [HQQ.out]; exact HO1.out, hB⟩
  obtain ⟨r, hr, rfl⟩ := inN_nat (n := n1) (x := x) (inN_iff.2 ⟨by omega, by omega⟩)
  have m1 : n1 ≤ 8000 := by rw [← H1.out]; exact hP.1.2.1
  have m2 : n2 ≤ 2000 := by rw [← H2.out]; exact hP.1.2.2
  have hrl : r < g.roads.length := by rw [H1.out]; exact hr
  have hro := roadB_out (hP.2.2.1 r hrl)
  obtain ⟨p, hp, ep⟩ := inN_nat (n := g.places.length) (x := g.roads[r].to) (inN_iff.2 hro.2.1)
  have HQQ : Hid (trnQ g (r : Int) = tnT g r p n1) := (by rw [trnQ_at hP hrl ep]; unfold tnT; rw [H1.out] : trnQ g (r : Int) = tnT g r p n1)
  have HEP : Hid (g.roads[r].to = (p : Int)) := ep
  have HBP : Hid (bansP g.roads g.bans) := hP.2.2.2
  have O2 : OwnI W.heap.size w1 (.slice (some ⟨w.heap.size + 1, 0, none⟩) 0 0) (tnT g r p 0) := by rw [tnT_zero]; exact O1
  have hrI : (r : Int) < (n1 : Int) := by omega
  have v1 : decide ((r : Int) < 0) = false := by simp
  have v2 : decide ((n1 : Int) ≤ (r : Int)) = false := by simp; omega
  have v3 : decide (n1 ≤ r) = false := by simp; omega
  have T1 := t1.bel roadE hBW
  have T2 := t2.bel banE hBW
  clear ep hro hP hp hx0 hx1 t1 t2 O1
  go_wp2
  clear y1 yl
  go_loopw [5, 6] (fun o i wr => ∃ k : Nat, k ≤ n1 ∧ i = .int .i64 k ∧ OwnI W.heap.size wr o (tnT g r p k) ∧ Bel W wr) (fun _ i _ => n1 - (intOf i).toNat)
  case atStart => exact ⟨0, Nat.zero_le _, rfl, O2, hB1⟩
  case round =>
    clear O2 hB1 hB
    obtain ⟨k, hk, rfl, hown, hBr⟩ := hrel
    obtain ⟨va, vc, rfl⟩ := own_shape hown
    have Xr := X0.bel hBr
    have o1 : wr.cell? ⟨w.heap.size, 1, none⟩ = some (.slice a1 n1 c1) := Xr.cell 1 (by simp)
    have ol := Xr.lt
    by_cases hlt : k < n1
    · have hkl : k < g.roads.length := by rw [H1.out]; exact hlt
      obtain ⟨b, off, f, rfl, hb, hx⟩ := (T1.bel roadE hBr).out hkl
      obtain ⟨_, _, _, _, _, _, _, z0, _⟩ := hx k hkl
      obtain ⟨_, _, _, _, _, _, _, _, z1, _⟩ := hx r hrl
      have z1 : wr.cell? ⟨b, off + r * 6 + 1, none⟩ = some (.int .i64 (p : Int)) := by rw [← HEP.out]; exact z1
      obtain ⟨y, Hy⟩ : ∃ y, Hid (y = g.roads[k].fr) := ⟨_, (rfl : g.roads[k].fr = _)⟩
      rw [← Hy.out] at z0
      have hS : ∀ w', Bel wr w' → w'.cell? ⟨w.heap.size, 0, none⟩ = some (.slice a0 n0 c0) ∧ w'.cell? ⟨w.heap.size, 1, none⟩ = some (.slice (some ⟨b, off, none⟩) n1 c1) ∧ w'.cell? ⟨w.heap.size, 2, none⟩ = some (.slice a2 n2 c2) ∧ w'.cell? ⟨b, off + k * 6, none⟩ = some (.int .i64 y) ∧ w'.cell? ⟨b, off + r * 6 + 1, none⟩ = some (.int .i64 (p : Int)) := fun w' h =>
        ⟨(Xr.bel h).cell 0 (by simp), (Xr.bel h).cell 1 (by simp), (Xr.bel h).cell 2 (by simp), bel_cellM h hb z0, bel_cellM h hb z1⟩
      have cB : ∀ w', Bel wr w' → Calls Try.prog 103 #[gphV a0 n0 c0 (some ⟨b, off, none⟩) n1 c1 a2 n2 c2, .int .i64 (r : Int), .int .i64 (k : Int)] w' fun e w'' => e = .returned (.bool (bP (inL g.bans (r : Int) (k : Int)))) ∧ Bel w' w'' := fun w' h =>
        banned_any a0 n0 c0 (some ⟨b, off, none⟩) n1 c1 a2 n2 c2 g.roads g.bans _ _ _ _ (T2.bel banE (bel_step hBr h)) H2.out m2 HBP.out
      have g0 : Bel wr wr := Bel.refl _
      have hlt' : (k : Int) < (n1 : Int) := by omega
      have hln := tnT_len g r p k
      have HO : Hid (OwnI W.heap.size wr (.slice va (tnT g r p k).length vc) (tnT g r p k)) := hown
      clear hown hx z0 z1
      by_cases hy : y = (p : Int)
      · have hy1 : (y == (p : Int)) = true := by simp [hy]
        rcases Bool.eq_false_or_eq_true (bP (inL g.bans (r : Int) (k : Int))) with hin | hin
        · have HE : Hid (tnT g r p (k + 1) = tnT g r p k) := tnT_ban hkl hin
          clear hy
          go_wp2
          clear o1 ol
          rw [hin] at cB
          refine wp_region_noPanic ?_
          refine wp_region_held_drew (S := fun w' => Bel wr w') (by kernel_rfl) (Bel.drew g0) (fun hHeld => ?_)
          refine wpAnyH_take (i := 0) (oi := { dst := some 30, op := Go.Op.fieldAddr 33 (Go.Operand.tmp 2) 1, type := 0, pos := "l09_graph.go:246", after := #[], guard := none }) (v := ?vab0) rfl (by kernel_rfl) (by kernel_rfl) (by kernel_rfl) (fun _ _ _ h => h) (Or.inl ⟨by rfl, ?hab0⟩) hHeld ?rab0
          case hab0 => (intro w hSw; (try dsimp only at hSw); go_simp; try with_reducible rfl)
          try simp only [Act.put, List.setIfInBounds_toArray, List.set_cons_zero, List.set_cons_succ]
          refine wpAnyH_take (i := 1) (oi := { dst := some 31, op := Go.Op.load 30 (Go.Operand.tmp 30), type := 30, pos := "l09_graph.go:246", after := #[{ on := 0, ground := Go.Ground.data }], guard := none }) (v := ?vab1) rfl (by kernel_rfl) (by kernel_rfl) (by kernel_rfl) (fun _ _ _ h => h) (Or.inl ⟨by rfl, ?hab1⟩) hHeld ?rab1
          case hab1 => (intro w hSw; (try dsimp only at hSw); go_simp; try with_reducible rfl)
          try simp only [Act.put, List.setIfInBounds_toArray, List.set_cons_zero, List.set_cons_succ]
          refine wpAnyH_take (i := 2) (oi := { dst := some 32, op := Go.Op.move (Go.Operand.tmp 6), type := 3, pos := "l09_graph.go:246", after := #[], guard := none }) (v := ?vab2) rfl (by kernel_rfl) (by kernel_rfl) (by kernel_rfl) (fun _ _ _ h => h) (Or.inl ⟨by rfl, ?hab2⟩) hHeld ?rab2
          case hab2 => (intro w hSw; (try dsimp only at hSw); go_simp; try with_reducible rfl)
          try simp only [Act.put, List.setIfInBounds_toArray, List.set_cons_zero, List.set_cons_succ]
          refine wpAnyH_take (i := 3) (oi := { dst := some 33, op := Go.Op.indexAddr 30 (Go.Operand.tmp 31) (Go.Operand.tmp 32), type := 0, pos := "l09_graph.go:246", after := #[{ on := 1, ground := Go.Ground.data }, { on := 2, ground := Go.Ground.data }], guard := none }) (v := ?vab3) rfl (by kernel_rfl) (by kernel_rfl) (by kernel_rfl) (fun _ _ _ h => h) (Or.inl ⟨by rfl, ?hab3⟩) hHeld ?rab3
          case hab3 => (intro w hSw; (try dsimp only at hSw); go_simp; try with_reducible rfl)
          try simp only [Act.put, List.setIfInBounds_toArray, List.set_cons_zero, List.set_cons_succ]
          refine wpAnyH_take (i := 4) (oi := { dst := some 34, op := Go.Op.fieldAddr 133 (Go.Operand.tmp 33) 0, type := 0, pos := "l09_graph.go:246", after := #[{ on := 3, ground := Go.Ground.data }], guard := none }) (v := ?vab4) rfl (by kernel_rfl) (by kernel_rfl) (by kernel_rfl) (fun _ _ _ h => h) (Or.inl ⟨by rfl, ?hab4⟩) hHeld ?rab4
          case hab4 => (intro w hSw; (try dsimp only at hSw); go_simp; try with_reducible rfl)
          try simp only [Act.put, List.setIfInBounds_toArray, List.set_cons_zero, List.set_cons_succ]
          refine wpAnyH_take (i := 5) (oi := { dst := some 35, op := Go.Op.load 2 (Go.Operand.tmp 34), type := 2, pos := "l09_graph.go:246", after := #[{ on := 4, ground := Go.Ground.data }], guard := none }) (v := ?vab5) rfl (by kernel_rfl) (by kernel_rfl) (by kernel_rfl) (fun _ _ _ h => h) (Or.inl ⟨by rfl, ?hab5⟩) hHeld ?rab5
          case hab5 => (intro w hSw; (try dsimp only at hSw); go_simp; try with_reducible rfl)
          try simp only [Act.put, List.setIfInBounds_toArray, List.set_cons_zero, List.set_cons_succ]
          refine wpAnyH_take (i := 6) (oi := { dst := some 36, op := Go.Op.fieldAddr 33 (Go.Operand.tmp 2) 1, type := 0, pos := "l09_graph.go:246", after := #[], guard := none }) (v := ?vab6) rfl (by kernel_rfl) (by kernel_rfl) (by kernel_rfl) (fun _ _ _ h => h) (Or.inl ⟨by rfl, ?hab6⟩) hHeld ?rab6
          case hab6 => (intro w hSw; (try dsimp only at hSw); go_simp; try with_reducible rfl)
          try simp only [Act.put, List.setIfInBounds_toArray, List.set_cons_zero, List.set_cons_succ]
          refine wpAnyH_take (i := 7) (oi := { dst := some 37, op := Go.Op.load 30 (Go.Operand.tmp 36), type := 30, pos := "l09_graph.go:246", after := #[{ on := 6, ground := Go.Ground.data }], guard := none }) (v := ?vab7) rfl (by kernel_rfl) (by kernel_rfl) (by kernel_rfl) (fun _ _ _ h => h) (Or.inl ⟨by rfl, ?hab7⟩) hHeld ?rab7
          case hab7 => (intro w hSw; (try dsimp only at hSw); go_simp; try with_reducible rfl)
          try simp only [Act.put, List.setIfInBounds_toArray, List.set_cons_zero, List.set_cons_succ]
          refine wpAnyH_take (i := 8) (oi := { dst := some 38, op := Go.Op.move (Go.Operand.tmp 1), type := 2, pos := "l09_graph.go:246", after := #[], guard := none }) (v := ?vab8) rfl (by kernel_rfl) (by kernel_rfl) (by kernel_rfl) (fun _ _ _ h => h) (Or.inl ⟨by rfl, ?hab8⟩) hHeld ?rab8
          case hab8 => (intro w hSw; (try dsimp only at hSw); go_simp; try with_reducible rfl)
          try simp only [Act.put, List.setIfInBounds_toArray, List.set_cons_zero, List.set_cons_succ]
          refine wpAnyH_take (i := 9) (oi := { dst := some 39, op := Go.Op.indexAddr 30 (Go.Operand.tmp 37) (Go.Operand.tmp 38), type := 0, pos := "l09_graph.go:246", after := #[{ on := 7, ground := Go.Ground.data }, { on := 8, ground := Go.Ground.data }], guard := none }) (v := ?vab9) rfl (by kernel_rfl) (by kernel_rfl) (by kernel_rfl) (fun _ _ _ h => h) (Or.inl ⟨by rfl, ?hab9⟩) hHeld ?rab9
          case hab9 => (intro w hSw; (try dsimp only at hSw); go_simp; try with_reducible rfl)
          try simp only [Act.put, List.setIfInBounds_toArray, List.set_cons_zero, List.set_cons_succ]
          refine wpAnyH_take (i := 10) (oi := { dst := some 40, op := Go.Op.fieldAddr 133 (Go.Operand.tmp 39) 1, type := 0, pos := "l09_graph.go:246", after := #[{ on := 9, ground := Go.Ground.data }], guard := none }) (v := ?vab10) rfl (by kernel_rfl) (by kernel_rfl) (by kernel_rfl) (fun _ _ _ h => h) (Or.inl ⟨by rfl, ?hab10⟩) hHeld ?rab10
          case hab10 => (intro w hSw; (try dsimp only at hSw); go_simp; try with_reducible rfl)
          try simp only [Act.put, List.setIfInBounds_toArray, List.set_cons_zero, List.set_cons_succ]
          refine wpAnyH_take (i := 11) (oi := { dst := some 41, op := Go.Op.load 2 (Go.Operand.tmp 40), type := 2, pos := "l09_graph.go:246", after := #[{ on := 10, ground := Go.Ground.data }], guard := none }) (v := ?vab11) rfl (by kernel_rfl) (by kernel_rfl) (by kernel_rfl) (fun _ _ _ h => h) (Or.inl ⟨by rfl, ?hab11⟩) hHeld ?rab11
          case hab11 => (intro w hSw; (try dsimp only at hSw); go_simp; try with_reducible rfl)
          try simp only [Act.put, List.setIfInBounds_toArray, List.set_cons_zero, List.set_cons_succ]
          refine wpAnyH_take (i := 12) (oi := { dst := some 42, op := Go.Op.binOp Go.BinOp.eql 2 (Go.Operand.tmp 35) (Go.Operand.tmp 41) 2, type := 4, pos := "l09_graph.go:246", after := #[{ on := 5, ground := Go.Ground.data }, { on := 11, ground := Go.Ground.data }], guard := none }) (v := ?vab12) rfl (by kernel_rfl) (by kernel_rfl) (by kernel_rfl) (fun _ _ _ h => h) (Or.inl ⟨by rfl, ?hab12⟩) hHeld ?rab12
          case hab12 => (intro w hSw; (try dsimp only at hSw); go_simp; try with_reducible rfl)
          try simp only [Act.put, List.setIfInBounds_toArray, List.set_cons_zero, List.set_cons_succ]
          refine wpAnyH_take (i := 13) (oi := { dst := some 43, op := Go.Op.move (Go.Operand.tmp 42), type := 4, pos := "l09_graph.go:246", after := #[{ on := 12, ground := Go.Ground.data }], guard := none }) (v := ?vab13) rfl (by kernel_rfl) (by kernel_rfl) (by kernel_rfl) (fun _ _ _ h => h) (Or.inl ⟨by rfl, ?hab13⟩) hHeld ?rab13
          case hab13 => (intro w hSw; (try dsimp only at hSw); go_simp; try with_reducible rfl)
          try simp only [Act.put, List.setIfInBounds_toArray, List.set_cons_zero, List.set_cons_succ]
          refine wpAnyH_take (i := 14) (oi := { dst := some 44, op := Go.Op.load 33 (Go.Operand.tmp 2), type := 33, pos := "l09_graph.go:246", after := #[{ on := 13, ground := Go.Ground.guard }], guard := some (13, true) }) (v := ?vab14) rfl (by kernel_rfl) (by kernel_rfl) (by kernel_rfl) (fun _ _ _ h => h) (Or.inl ⟨by rfl, ?hab14⟩) hHeld ?rab14
          case hab14 => (intro w hSw; (try dsimp only at hSw); go_simp; try with_reducible rfl)
          try simp only [Act.put, List.setIfInBounds_toArray, List.set_cons_zero, List.set_cons_succ]
          refine wpAnyH_take (i := 15) (oi := { dst := some 45, op := Go.Op.move (Go.Operand.tmp 1), type := 2, pos := "l09_graph.go:246", after := #[{ on := 13, ground := Go.Ground.guard }], guard := some (13, true) }) (v := ?vab15) rfl (by kernel_rfl) (by kernel_rfl) (by kernel_rfl) (fun _ _ _ h => h) (Or.inl ⟨by rfl, ?hab15⟩) hHeld ?rab15
          case hab15 => (intro w hSw; (try dsimp only at hSw); go_simp; try with_reducible rfl)
          try simp only [Act.put, List.setIfInBounds_toArray, List.set_cons_zero, List.set_cons_succ]
          refine wpAnyH_take (i := 16) (oi := { dst := some 46, op := Go.Op.move (Go.Operand.tmp 6), type := 3, pos := "l09_graph.go:246", after := #[{ on := 13, ground := Go.Ground.guard }], guard := some (13, true) }) (v := ?vab16) rfl (by kernel_rfl) (by kernel_rfl) (by kernel_rfl) (fun _ _ _ h => h) (Or.inl ⟨by rfl, ?hab16⟩) hHeld ?rab16
          case hab16 => (intro w hSw; (try dsimp only at hSw); go_simp; try with_reducible rfl)
          try simp only [Act.put, List.setIfInBounds_toArray, List.set_cons_zero, List.set_cons_succ]
          refine wpAnyH_ready (rs := [17]) (by kernel_rfl) (by simp) ?_
          refine AllReadyH.cons (o := { dst := some 47, op := Go.Op.call { callee := Go.Callee.value (Go.Operand.func 103), args := #[Go.Operand.tmp 44, Go.Operand.tmp 45, Go.Operand.tmp 46], argTypes := #[33, 2, 2] }, type := 4, pos := "l09_graph.go:246", after := #[{ on := 14, ground := Go.Ground.data }, { on := 15, ground := Go.Ground.data }, { on := 16, ground := Go.Ground.data }, { on := 13, ground := Go.Ground.chain }, { on := 13, ground := Go.Ground.guard }], guard := some (13, true) }) rfl (fun K hK => ?_) AllReadyH.nil
          go_simp
          refine (cB _ hHeld).mono ?_
          rintro e w2 ⟨rfl, hbk⟩
          go_wp2_with fail
          refine hK.out _ _ ((by first | exact bel_step hHeld hbk | exact hHeld)) (fun hHeld' => ?_)
          clear hK K hHeld
          have hHeld := hHeld'
          clear hHeld'
          try simp only [Act.put, List.setIfInBounds_toArray, List.set_cons_zero, List.set_cons_succ]
          refine wpAnyH_take (i := 18) (oi := { dst := some 48, op := Go.Op.unOp Go.UnOp.not 4 (Go.Operand.tmp 47), type := 4, pos := "l09_graph.go:246", after := #[{ on := 17, ground := Go.Ground.data }, { on := 13, ground := Go.Ground.guard }], guard := some (13, true) }) (v := ?vab18) rfl (by kernel_rfl) (by kernel_rfl) (by kernel_rfl) (fun _ _ _ h => h) (Or.inl ⟨by rfl, ?hab18⟩) hHeld ?rab18
          case hab18 => (intro w hSw; (try dsimp only at hSw); go_simp; try with_reducible rfl)
          try simp only [Act.put, List.setIfInBounds_toArray, List.set_cons_zero, List.set_cons_succ]
          refine wpAnyH_take (i := 19) (oi := { dst := some 49, op := Go.Op.pick (Go.Operand.tmp 43) (Go.Operand.tmp 48) (Go.Operand.const (Go.Value.bool false)), type := 4, pos := "l09_graph.go:246", after := #[{ on := 13, ground := Go.Ground.data }, { on := 18, ground := Go.Ground.data }], guard := none }) (v := ?vab19) rfl (by kernel_rfl) (by kernel_rfl) (by kernel_rfl) (fun _ _ _ h => h) (Or.inl ⟨by rfl, ?hab19⟩) hHeld ?rab19
          case hab19 => (intro w hSw; (try dsimp only at hSw); go_simp; try with_reducible rfl)
          try simp only [Act.put, List.setIfInBounds_toArray, List.set_cons_zero, List.set_cons_succ]
          refine wpAnyH_done (by kernel_rfl) ?_ _
          refine NoPanic.normal ?_
          go_wp2
          go_roundw
          case rel => exact ⟨k + 1, by omega, by go_num, by rw [HE.out]; exact World.ownsRow.kept HO.out (bel_none' hHeld) (Classical.em _), bel_step hBr hHeld⟩
          case measure => simp [intOf]; omega
        · have HE : Hid (tnT g r p (k + 1) = tnT g r p k ++ [(k : Int)]) := tnT_yes hkl (by rw [← Hy.out]; exact hy) hin
          clear hy
          go_wp2
          clear o1 ol
          rw [hin] at cB
          refine wp_region_noPanic ?_
          refine wp_region_held_drew (S := fun w' => Bel wr w') (by kernel_rfl) (Bel.drew g0) (fun hHeld => ?_)
          refine wpAnyH_take (i := 0) (oi := { dst := some 30, op := Go.Op.fieldAddr 33 (Go.Operand.tmp 2) 1, type := 0, pos := "l09_graph.go:246", after := #[], guard := none }) (v := ?vac0) rfl (by kernel_rfl) (by kernel_rfl) (by kernel_rfl) (fun _ _ _ h => h) (Or.inl ⟨by rfl, ?hac0⟩) hHeld ?rac0
          case hac0 => (intro w hSw; (try dsimp only at hSw); go_simp; try with_reducible rfl)
          try simp only [Act.put, List.setIfInBounds_toArray, List.set_cons_zero, List.set_cons_succ]
          refine wpAnyH_take (i := 1) (oi := { dst := some 31, op := Go.Op.load 30 (Go.Operand.tmp 30), type := 30, pos := "l09_graph.go:246", after := #[{ on := 0, ground := Go.Ground.data }], guard := none }) (v := ?vac1) rfl (by kernel_rfl) (by kernel_rfl) (by kernel_rfl) (fun _ _ _ h => h) (Or.inl ⟨by rfl, ?hac1⟩) hHeld ?rac1
          case hac1 => (intro w hSw; (try dsimp only at hSw); go_simp; try with_reducible rfl)
          try simp only [Act.put, List.setIfInBounds_toArray, List.set_cons_zero, List.set_cons_succ]
          refine wpAnyH_take (i := 2) (oi := { dst := some 32, op := Go.Op.move (Go.Operand.tmp 6), type := 3, pos := "l09_graph.go:246", after := #[], guard := none }) (v := ?vac2) rfl (by kernel_rfl) (by kernel_rfl) (by kernel_rfl) (fun _ _ _ h => h) (Or.inl ⟨by rfl, ?hac2⟩) hHeld ?rac2
          case hac2 => (intro w hSw; (try dsimp only at hSw); go_simp; try with_reducible rfl)
          try simp only [Act.put, List.setIfInBounds_toArray, List.set_cons_zero, List.set_cons_succ]
          refine wpAnyH_take (i := 3) (oi := { dst := some 33, op := Go.Op.indexAddr 30 (Go.Operand.tmp 31) (Go.Operand.tmp 32), type := 0, pos := "l09_graph.go:246", after := #[{ on := 1, ground := Go.Ground.data }, { on := 2, ground := Go.Ground.data }], guard := none }) (v := ?vac3) rfl (by kernel_rfl) (by kernel_rfl) (by kernel_rfl) (fun _ _ _ h => h) (Or.inl ⟨by rfl, ?hac3⟩) hHeld ?rac3
          case hac3 => (intro w hSw; (try dsimp only at hSw); go_simp; try with_reducible rfl)
          try simp only [Act.put, List.setIfInBounds_toArray, List.set_cons_zero, List.set_cons_succ]
          refine wpAnyH_take (i := 4) (oi := { dst := some 34, op := Go.Op.fieldAddr 133 (Go.Operand.tmp 33) 0, type := 0, pos := "l09_graph.go:246", after := #[{ on := 3, ground := Go.Ground.data }], guard := none }) (v := ?vac4) rfl (by kernel_rfl) (by kernel_rfl) (by kernel_rfl) (fun _ _ _ h => h) (Or.inl ⟨by rfl, ?hac4⟩) hHeld ?rac4
          case hac4 => (intro w hSw; (try dsimp only at hSw); go_simp; try with_reducible rfl)
          try simp only [Act.put, List.setIfInBounds_toArray, List.set_cons_zero, List.set_cons_succ]
          refine wpAnyH_take (i := 5) (oi := { dst := some 35, op := Go.Op.load 2 (Go.Operand.tmp 34), type := 2, pos := "l09_graph.go:246", after := #[{ on := 4, ground := Go.Ground.data }], guard := none }) (v := ?vac5) rfl (by kernel_rfl) (by kernel_rfl) (by kernel_rfl) (fun _ _ _ h => h) (Or.inl ⟨by rfl, ?hac5⟩) hHeld ?rac5
          case hac5 => (intro w hSw; (try dsimp only at hSw); go_simp; try with_reducible rfl)
          try simp only [Act.put, List.setIfInBounds_toArray, List.set_cons_zero, List.set_cons_succ]
          refine wpAnyH_take (i := 6) (oi := { dst := some 36, op := Go.Op.fieldAddr 33 (Go.Operand.tmp 2) 1, type := 0, pos := "l09_graph.go:246", after := #[], guard := none }) (v := ?vac6) rfl (by kernel_rfl) (by kernel_rfl) (by kernel_rfl) (fun _ _ _ h => h) (Or.inl ⟨by rfl, ?hac6⟩) hHeld ?rac6
          case hac6 => (intro w hSw; (try dsimp only at hSw); go_simp; try with_reducible rfl)
          try simp only [Act.put, List.setIfInBounds_toArray, List.set_cons_zero, List.set_cons_succ]
          refine wpAnyH_take (i := 7) (oi := { dst := some 37, op := Go.Op.load 30 (Go.Operand.tmp 36), type := 30, pos := "l09_graph.go:246", after := #[{ on := 6, ground := Go.Ground.data }], guard := none }) (v := ?vac7) rfl (by kernel_rfl) (by kernel_rfl) (by kernel_rfl) (fun _ _ _ h => h) (Or.inl ⟨by rfl, ?hac7⟩) hHeld ?rac7
          case hac7 => (intro w hSw; (try dsimp only at hSw); go_simp; try with_reducible rfl)
          try simp only [Act.put, List.setIfInBounds_toArray, List.set_cons_zero, List.set_cons_succ]
          refine wpAnyH_take (i := 8) (oi := { dst := some 38, op := Go.Op.move (Go.Operand.tmp 1), type := 2, pos := "l09_graph.go:246", after := #[], guard := none }) (v := ?vac8) rfl (by kernel_rfl) (by kernel_rfl) (by kernel_rfl) (fun _ _ _ h => h) (Or.inl ⟨by rfl, ?hac8⟩) hHeld ?rac8
          case hac8 => (intro w hSw; (try dsimp only at hSw); go_simp; try with_reducible rfl)
          try simp only [Act.put, List.setIfInBounds_toArray, List.set_cons_zero, List.set_cons_succ]
          refine wpAnyH_take (i := 9) (oi := { dst := some 39, op := Go.Op.indexAddr 30 (Go.Operand.tmp 37) (Go.Operand.tmp 38), type := 0, pos := "l09_graph.go:246", after := #[{ on := 7, ground := Go.Ground.data }, { on := 8, ground := Go.Ground.data }], guard := none }) (v := ?vac9) rfl (by kernel_rfl) (by kernel_rfl) (by kernel_rfl) (fun _ _ _ h => h) (Or.inl ⟨by rfl, ?hac9⟩) hHeld ?rac9
          case hac9 => (intro w hSw; (try dsimp only at hSw); go_simp; try with_reducible rfl)
          try simp only [Act.put, List.setIfInBounds_toArray, List.set_cons_zero, List.set_cons_succ]
          refine wpAnyH_take (i := 10) (oi := { dst := some 40, op := Go.Op.fieldAddr 133 (Go.Operand.tmp 39) 1, type := 0, pos := "l09_graph.go:246", after := #[{ on := 9, ground := Go.Ground.data }], guard := none }) (v := ?vac10) rfl (by kernel_rfl) (by kernel_rfl) (by kernel_rfl) (fun _ _ _ h => h) (Or.inl ⟨by rfl, ?hac10⟩) hHeld ?rac10
          case hac10 => (intro w hSw; (try dsimp only at hSw); go_simp; try with_reducible rfl)
          try simp only [Act.put, List.setIfInBounds_toArray, List.set_cons_zero, List.set_cons_succ]
          refine wpAnyH_take (i := 11) (oi := { dst := some 41, op := Go.Op.load 2 (Go.Operand.tmp 40), type := 2, pos := "l09_graph.go:246", after := #[{ on := 10, ground := Go.Ground.data }], guard := none }) (v := ?vac11) rfl (by kernel_rfl) (by kernel_rfl) (by kernel_rfl) (fun _ _ _ h => h) (Or.inl ⟨by rfl, ?hac11⟩) hHeld ?rac11
          case hac11 => (intro w hSw; (try dsimp only at hSw); go_simp; try with_reducible rfl)
          try simp only [Act.put, List.setIfInBounds_toArray, List.set_cons_zero, List.set_cons_succ]
          refine wpAnyH_take (i := 12) (oi := { dst := some 42, op := Go.Op.binOp Go.BinOp.eql 2 (Go.Operand.tmp 35) (Go.Operand.tmp 41) 2, type := 4, pos := "l09_graph.go:246", after := #[{ on := 5, ground := Go.Ground.data }, { on := 11, ground := Go.Ground.data }], guard := none }) (v := ?vac12) rfl (by kernel_rfl) (by kernel_rfl) (by kernel_rfl) (fun _ _ _ h => h) (Or.inl ⟨by rfl, ?hac12⟩) hHeld ?rac12
          case hac12 => (intro w hSw; (try dsimp only at hSw); go_simp; try with_reducible rfl)
          try simp only [Act.put, List.setIfInBounds_toArray, List.set_cons_zero, List.set_cons_succ]
          refine wpAnyH_take (i := 13) (oi := { dst := some 43, op := Go.Op.move (Go.Operand.tmp 42), type := 4, pos := "l09_graph.go:246", after := #[{ on := 12, ground := Go.Ground.data }], guard := none }) (v := ?vac13) rfl (by kernel_rfl) (by kernel_rfl) (by kernel_rfl) (fun _ _ _ h => h) (Or.inl ⟨by rfl, ?hac13⟩) hHeld ?rac13
          case hac13 => (intro w hSw; (try dsimp only at hSw); go_simp; try with_reducible rfl)
          try simp only [Act.put, List.setIfInBounds_toArray, List.set_cons_zero, List.set_cons_succ]
          refine wpAnyH_take (i := 14) (oi := { dst := some 44, op := Go.Op.load 33 (Go.Operand.tmp 2), type := 33, pos := "l09_graph.go:246", after := #[{ on := 13, ground := Go.Ground.guard }], guard := some (13, true) }) (v := ?vac14) rfl (by kernel_rfl) (by kernel_rfl) (by kernel_rfl) (fun _ _ _ h => h) (Or.inl ⟨by rfl, ?hac14⟩) hHeld ?rac14
          case hac14 => (intro w hSw; (try dsimp only at hSw); go_simp; try with_reducible rfl)
          try simp only [Act.put, List.setIfInBounds_toArray, List.set_cons_zero, List.set_cons_succ]
          refine wpAnyH_take (i := 15) (oi := { dst := some 45, op := Go.Op.move (Go.Operand.tmp 1), type := 2, pos := "l09_graph.go:246", after := #[{ on := 13, ground := Go.Ground.guard }], guard := some (13, true) }) (v := ?vac15) rfl (by kernel_rfl) (by kernel_rfl) (by kernel_rfl) (fun _ _ _ h => h) (Or.inl ⟨by rfl, ?hac15⟩) hHeld ?rac15
          case hac15 => (intro w hSw; (try dsimp only at hSw); go_simp; try with_reducible rfl)
          try simp only [Act.put, List.setIfInBounds_toArray, List.set_cons_zero, List.set_cons_succ]
          refine wpAnyH_take (i := 16) (oi := { dst := some 46, op := Go.Op.move (Go.Operand.tmp 6), type := 3, pos := "l09_graph.go:246", after := #[{ on := 13, ground := Go.Ground.guard }], guard := some (13, true) }) (v := ?vac16) rfl (by kernel_rfl) (by kernel_rfl) (by kernel_rfl) (fun _ _ _ h => h) (Or.inl ⟨by rfl, ?hac16⟩) hHeld ?rac16
          case hac16 => (intro w hSw; (try dsimp only at hSw); go_simp; try with_reducible rfl)
          try simp only [Act.put, List.setIfInBounds_toArray, List.set_cons_zero, List.set_cons_succ]
          refine wpAnyH_ready (rs := [17]) (by kernel_rfl) (by simp) ?_
          refine AllReadyH.cons (o := { dst := some 47, op := Go.Op.call { callee := Go.Callee.value (Go.Operand.func 103), args := #[Go.Operand.tmp 44, Go.Operand.tmp 45, Go.Operand.tmp 46], argTypes := #[33, 2, 2] }, type := 4, pos := "l09_graph.go:246", after := #[{ on := 14, ground := Go.Ground.data }, { on := 15, ground := Go.Ground.data }, { on := 16, ground := Go.Ground.data }, { on := 13, ground := Go.Ground.chain }, { on := 13, ground := Go.Ground.guard }], guard := some (13, true) }) rfl (fun K hK => ?_) AllReadyH.nil
          go_simp
          refine (cB _ hHeld).mono ?_
          rintro e w2 ⟨rfl, hbk⟩
          go_wp2_with fail
          refine hK.out _ _ ((by first | exact bel_step hHeld hbk | exact hHeld)) (fun hHeld' => ?_)
          clear hK K hHeld
          have hHeld := hHeld'
          clear hHeld'
          try simp only [Act.put, List.setIfInBounds_toArray, List.set_cons_zero, List.set_cons_succ]
          refine wpAnyH_take (i := 18) (oi := { dst := some 48, op := Go.Op.unOp Go.UnOp.not 4 (Go.Operand.tmp 47), type := 4, pos := "l09_graph.go:246", after := #[{ on := 17, ground := Go.Ground.data }, { on := 13, ground := Go.Ground.guard }], guard := some (13, true) }) (v := ?vac18) rfl (by kernel_rfl) (by kernel_rfl) (by kernel_rfl) (fun _ _ _ h => h) (Or.inl ⟨by rfl, ?hac18⟩) hHeld ?rac18
          case hac18 => (intro w hSw; (try dsimp only at hSw); go_simp; try with_reducible rfl)
          try simp only [Act.put, List.setIfInBounds_toArray, List.set_cons_zero, List.set_cons_succ]
          refine wpAnyH_take (i := 19) (oi := { dst := some 49, op := Go.Op.pick (Go.Operand.tmp 43) (Go.Operand.tmp 48) (Go.Operand.const (Go.Value.bool false)), type := 4, pos := "l09_graph.go:246", after := #[{ on := 13, ground := Go.Ground.data }, { on := 18, ground := Go.Ground.data }], guard := none }) (v := ?vac19) rfl (by kernel_rfl) (by kernel_rfl) (by kernel_rfl) (fun _ _ _ h => h) (Or.inl ⟨by rfl, ?hac19⟩) hHeld ?rac19
          case hac19 => (intro w hSw; (try dsimp only at hSw); go_simp; try with_reducible rfl)
          try simp only [Act.put, List.setIfInBounds_toArray, List.set_cons_zero, List.set_cons_succ]
          refine wpAnyH_done (by kernel_rfl) ?_ _
          refine NoPanic.normal ?_
          have hown2 := World.ownsRow.alloc (World.ownsRow.kept HO.out (bel_none' hHeld) (Classical.em _)) (.cells #[.int .i64 (k : Int)] 2)
          have hBa := bel_alloc (bel_step hBr hHeld) (.cells #[.int .i64 (k : Int)] 2)
          have hsz2 := (bel_step hBr hHeld).out.size
          clear hS cB
          go_wp2_with (first
            | (at_builtin; refine wpList_append_own _ rfl _ _ 44 rfl W.heap.size 2 i0 (.int .i64 0) 1 8 Try.underlying44 hi0 hz0 hz1 hz2 rfl (by decide) _ _ _ rfl hown2 ⟨w2.heap.size, 0, none⟩ 1 1 [.int .i64 (k : Int)] rfl rfl ?c1 ?c2 ?c3 ?c4 ?c5 ?_)
            | go_in)
          case c1 =>
            intro j u hj
            match j, hj with
            | 0, hj => simp at hj; subst hj; simp [Addr.add]
          case c2 =>
            intro u hu
            simp at hu
            rcases hu with rfl
            rfl
          case c3 => unfold maxLen; omega
          case c4 => omega
          case c5 => simp; omega
          intro v' w3 hown' hgrow _
          have HO3 : Hid (OwnI W.heap.size w3 v' (tnT g r p (k + 1))) := by rw [HE.out]; exact own_add hown'
          have hB3 : Bel W w3 := bel_grow hBa hgrow (fun j e => (hown2.lt j e).1)
          clear hown' hgrow hown2 hBa HO
          go_wp2
          go_roundw
          case rel => exact ⟨k + 1, by omega, by go_num, HO3.out, hB3⟩
          case measure => simp [intOf]; omega
      · have HE : Hid (tnT g r p (k + 1) = tnT g r p k) := tnT_no hkl (by rw [← Hy.out]; exact hy)
        have hy1 : (y == (p : Int)) = false := by simp [hy]
        clear hy
        go_wp2
        clear o1 ol
        refine wp_region_noPanic ?_
        refine wp_region_held_drew (S := fun w' => Bel wr w') (by kernel_rfl) (Bel.drew g0) (fun hHeld => ?_)
        refine wpAnyH_take (i := 0) (oi := { dst := some 30, op := Go.Op.fieldAddr 33 (Go.Operand.tmp 2) 1, type := 0, pos := "l09_graph.go:246", after := #[], guard := none }) (v := ?vad0) rfl (by kernel_rfl) (by kernel_rfl) (by kernel_rfl) (fun _ _ _ h => h) (Or.inl ⟨by rfl, ?had0⟩) hHeld ?rad0
        case had0 => (intro w hSw; (try dsimp only at hSw); go_simp; try with_reducible rfl)
        try simp only [Act.put, List.setIfInBounds_toArray, List.set_cons_zero, List.set_cons_succ]
        refine wpAnyH_take (i := 1) (oi := { dst := some 31, op := Go.Op.load 30 (Go.Operand.tmp 30), type := 30, pos := "l09_graph.go:246", after := #[{ on := 0, ground := Go.Ground.data }], guard := none }) (v := ?vad1) rfl (by kernel_rfl) (by kernel_rfl) (by kernel_rfl) (fun _ _ _ h => h) (Or.inl ⟨by rfl, ?had1⟩) hHeld ?rad1
        case had1 => (intro w hSw; (try dsimp only at hSw); go_simp; try with_reducible rfl)
        try simp only [Act.put, List.setIfInBounds_toArray, List.set_cons_zero, List.set_cons_succ]
        refine wpAnyH_take (i := 2) (oi := { dst := some 32, op := Go.Op.move (Go.Operand.tmp 6), type := 3, pos := "l09_graph.go:246", after := #[], guard := none }) (v := ?vad2) rfl (by kernel_rfl) (by kernel_rfl) (by kernel_rfl) (fun _ _ _ h => h) (Or.inl ⟨by rfl, ?had2⟩) hHeld ?rad2
        case had2 => (intro w hSw; (try dsimp only at hSw); go_simp; try with_reducible rfl)
        try simp only [Act.put, List.setIfInBounds_toArray, List.set_cons_zero, List.set_cons_succ]
        refine wpAnyH_take (i := 3) (oi := { dst := some 33, op := Go.Op.indexAddr 30 (Go.Operand.tmp 31) (Go.Operand.tmp 32), type := 0, pos := "l09_graph.go:246", after := #[{ on := 1, ground := Go.Ground.data }, { on := 2, ground := Go.Ground.data }], guard := none }) (v := ?vad3) rfl (by kernel_rfl) (by kernel_rfl) (by kernel_rfl) (fun _ _ _ h => h) (Or.inl ⟨by rfl, ?had3⟩) hHeld ?rad3
        case had3 => (intro w hSw; (try dsimp only at hSw); go_simp; try with_reducible rfl)
        try simp only [Act.put, List.setIfInBounds_toArray, List.set_cons_zero, List.set_cons_succ]
        refine wpAnyH_take (i := 4) (oi := { dst := some 34, op := Go.Op.fieldAddr 133 (Go.Operand.tmp 33) 0, type := 0, pos := "l09_graph.go:246", after := #[{ on := 3, ground := Go.Ground.data }], guard := none }) (v := ?vad4) rfl (by kernel_rfl) (by kernel_rfl) (by kernel_rfl) (fun _ _ _ h => h) (Or.inl ⟨by rfl, ?had4⟩) hHeld ?rad4
        case had4 => (intro w hSw; (try dsimp only at hSw); go_simp; try with_reducible rfl)
        try simp only [Act.put, List.setIfInBounds_toArray, List.set_cons_zero, List.set_cons_succ]
        refine wpAnyH_take (i := 5) (oi := { dst := some 35, op := Go.Op.load 2 (Go.Operand.tmp 34), type := 2, pos := "l09_graph.go:246", after := #[{ on := 4, ground := Go.Ground.data }], guard := none }) (v := ?vad5) rfl (by kernel_rfl) (by kernel_rfl) (by kernel_rfl) (fun _ _ _ h => h) (Or.inl ⟨by rfl, ?had5⟩) hHeld ?rad5
        case had5 => (intro w hSw; (try dsimp only at hSw); go_simp; try with_reducible rfl)
        try simp only [Act.put, List.setIfInBounds_toArray, List.set_cons_zero, List.set_cons_succ]
        refine wpAnyH_take (i := 6) (oi := { dst := some 36, op := Go.Op.fieldAddr 33 (Go.Operand.tmp 2) 1, type := 0, pos := "l09_graph.go:246", after := #[], guard := none }) (v := ?vad6) rfl (by kernel_rfl) (by kernel_rfl) (by kernel_rfl) (fun _ _ _ h => h) (Or.inl ⟨by rfl, ?had6⟩) hHeld ?rad6
        case had6 => (intro w hSw; (try dsimp only at hSw); go_simp; try with_reducible rfl)
        try simp only [Act.put, List.setIfInBounds_toArray, List.set_cons_zero, List.set_cons_succ]
        refine wpAnyH_take (i := 7) (oi := { dst := some 37, op := Go.Op.load 30 (Go.Operand.tmp 36), type := 30, pos := "l09_graph.go:246", after := #[{ on := 6, ground := Go.Ground.data }], guard := none }) (v := ?vad7) rfl (by kernel_rfl) (by kernel_rfl) (by kernel_rfl) (fun _ _ _ h => h) (Or.inl ⟨by rfl, ?had7⟩) hHeld ?rad7
        case had7 => (intro w hSw; (try dsimp only at hSw); go_simp; try with_reducible rfl)
        try simp only [Act.put, List.setIfInBounds_toArray, List.set_cons_zero, List.set_cons_succ]
        refine wpAnyH_take (i := 8) (oi := { dst := some 38, op := Go.Op.move (Go.Operand.tmp 1), type := 2, pos := "l09_graph.go:246", after := #[], guard := none }) (v := ?vad8) rfl (by kernel_rfl) (by kernel_rfl) (by kernel_rfl) (fun _ _ _ h => h) (Or.inl ⟨by rfl, ?had8⟩) hHeld ?rad8
        case had8 => (intro w hSw; (try dsimp only at hSw); go_simp; try with_reducible rfl)
        try simp only [Act.put, List.setIfInBounds_toArray, List.set_cons_zero, List.set_cons_succ]
        refine wpAnyH_take (i := 9) (oi := { dst := some 39, op := Go.Op.indexAddr 30 (Go.Operand.tmp 37) (Go.Operand.tmp 38), type := 0, pos := "l09_graph.go:246", after := #[{ on := 7, ground := Go.Ground.data }, { on := 8, ground := Go.Ground.data }], guard := none }) (v := ?vad9) rfl (by kernel_rfl) (by kernel_rfl) (by kernel_rfl) (fun _ _ _ h => h) (Or.inl ⟨by rfl, ?had9⟩) hHeld ?rad9
        case had9 => (intro w hSw; (try dsimp only at hSw); go_simp; try with_reducible rfl)
        try simp only [Act.put, List.setIfInBounds_toArray, List.set_cons_zero, List.set_cons_succ]
        refine wpAnyH_take (i := 10) (oi := { dst := some 40, op := Go.Op.fieldAddr 133 (Go.Operand.tmp 39) 1, type := 0, pos := "l09_graph.go:246", after := #[{ on := 9, ground := Go.Ground.data }], guard := none }) (v := ?vad10) rfl (by kernel_rfl) (by kernel_rfl) (by kernel_rfl) (fun _ _ _ h => h) (Or.inl ⟨by rfl, ?had10⟩) hHeld ?rad10
        case had10 => (intro w hSw; (try dsimp only at hSw); go_simp; try with_reducible rfl)
        try simp only [Act.put, List.setIfInBounds_toArray, List.set_cons_zero, List.set_cons_succ]
        refine wpAnyH_take (i := 11) (oi := { dst := some 41, op := Go.Op.load 2 (Go.Operand.tmp 40), type := 2, pos := "l09_graph.go:246", after := #[{ on := 10, ground := Go.Ground.data }], guard := none }) (v := ?vad11) rfl (by kernel_rfl) (by kernel_rfl) (by kernel_rfl) (fun _ _ _ h => h) (Or.inl ⟨by rfl, ?had11⟩) hHeld ?rad11
        case had11 => (intro w hSw; (try dsimp only at hSw); go_simp; try with_reducible rfl)
        try simp only [Act.put, List.setIfInBounds_toArray, List.set_cons_zero, List.set_cons_succ]
        refine wpAnyH_take (i := 12) (oi := { dst := some 42, op := Go.Op.binOp Go.BinOp.eql 2 (Go.Operand.tmp 35) (Go.Operand.tmp 41) 2, type := 4, pos := "l09_graph.go:246", after := #[{ on := 5, ground := Go.Ground.data }, { on := 11, ground := Go.Ground.data }], guard := none }) (v := ?vad12) rfl (by kernel_rfl) (by kernel_rfl) (by kernel_rfl) (fun _ _ _ h => h) (Or.inl ⟨by rfl, ?had12⟩) hHeld ?rad12
        case had12 => (intro w hSw; (try dsimp only at hSw); go_simp; try with_reducible rfl)
        try simp only [Act.put, List.setIfInBounds_toArray, List.set_cons_zero, List.set_cons_succ]
        refine wpAnyH_take (i := 13) (oi := { dst := some 43, op := Go.Op.move (Go.Operand.tmp 42), type := 4, pos := "l09_graph.go:246", after := #[{ on := 12, ground := Go.Ground.data }], guard := none }) (v := ?vad13) rfl (by kernel_rfl) (by kernel_rfl) (by kernel_rfl) (fun _ _ _ h => h) (Or.inl ⟨by rfl, ?had13⟩) hHeld ?rad13
        case had13 => (intro w hSw; (try dsimp only at hSw); go_simp; try with_reducible rfl)
        try simp only [Act.put, List.setIfInBounds_toArray, List.set_cons_zero, List.set_cons_succ]
        refine wpAnyH_take (i := 14) (oi := { dst := some 44, op := Go.Op.load 33 (Go.Operand.tmp 2), type := 33, pos := "l09_graph.go:246", after := #[{ on := 13, ground := Go.Ground.guard }], guard := some (13, true) }) (v := undef) rfl (by kernel_rfl) (by kernel_rfl) (by kernel_rfl) (fun _ _ _ h => h) (Or.inr ⟨by rfl, rfl⟩) hHeld ?_
        try simp only [Act.put, List.setIfInBounds_toArray, List.set_cons_zero, List.set_cons_succ]
        refine wpAnyH_take (i := 15) (oi := { dst := some 45, op := Go.Op.move (Go.Operand.tmp 1), type := 2, pos := "l09_graph.go:246", after := #[{ on := 13, ground := Go.Ground.guard }], guard := some (13, true) }) (v := undef) rfl (by kernel_rfl) (by kernel_rfl) (by kernel_rfl) (fun _ _ _ h => h) (Or.inr ⟨by rfl, rfl⟩) hHeld ?_
        try simp only [Act.put, List.setIfInBounds_toArray, List.set_cons_zero, List.set_cons_succ]
        refine wpAnyH_take (i := 16) (oi := { dst := some 46, op := Go.Op.move (Go.Operand.tmp 6), type := 3, pos := "l09_graph.go:246", after := #[{ on := 13, ground := Go.Ground.guard }], guard := some (13, true) }) (v := undef) rfl (by kernel_rfl) (by kernel_rfl) (by kernel_rfl) (fun _ _ _ h => h) (Or.inr ⟨by rfl, rfl⟩) hHeld ?_
        try simp only [Act.put, List.setIfInBounds_toArray, List.set_cons_zero, List.set_cons_succ]
        refine wpAnyH_take (i := 17) (oi := { dst := some 47, op := Go.Op.call { callee := Go.Callee.value (Go.Operand.func 103), args := #[Go.Operand.tmp 44, Go.Operand.tmp 45, Go.Operand.tmp 46], argTypes := #[33, 2, 2] }, type := 4, pos := "l09_graph.go:246", after := #[{ on := 14, ground := Go.Ground.data }, { on := 15, ground := Go.Ground.data }, { on := 16, ground := Go.Ground.data }, { on := 13, ground := Go.Ground.chain }, { on := 13, ground := Go.Ground.guard }], guard := some (13, true) }) (v := undef) rfl (by kernel_rfl) (by kernel_rfl) (by kernel_rfl) (fun _ _ _ h => h) (Or.inr ⟨by rfl, rfl⟩) hHeld ?_
        try simp only [Act.put, List.setIfInBounds_toArray, List.set_cons_zero, List.set_cons_succ]
        refine wpAnyH_take (i := 18) (oi := { dst := some 48, op := Go.Op.unOp Go.UnOp.not 4 (Go.Operand.tmp 47), type := 4, pos := "l09_graph.go:246", after := #[{ on := 17, ground := Go.Ground.data }, { on := 13, ground := Go.Ground.guard }], guard := some (13, true) }) (v := undef) rfl (by kernel_rfl) (by kernel_rfl) (by kernel_rfl) (fun _ _ _ h => h) (Or.inr ⟨by rfl, rfl⟩) hHeld ?_
        try simp only [Act.put, List.setIfInBounds_toArray, List.set_cons_zero, List.set_cons_succ]
        refine wpAnyH_take (i := 19) (oi := { dst := some 49, op := Go.Op.pick (Go.Operand.tmp 43) (Go.Operand.tmp 48) (Go.Operand.const (Go.Value.bool false)), type := 4, pos := "l09_graph.go:246", after := #[{ on := 13, ground := Go.Ground.data }, { on := 18, ground := Go.Ground.data }], guard := none }) (v := ?vad19) rfl (by kernel_rfl) (by kernel_rfl) (by kernel_rfl) (fun _ _ _ h => h) (Or.inl ⟨by rfl, ?had19⟩) hHeld ?rad19
        case had19 => (intro w hSw; (try dsimp only at hSw); go_simp; try with_reducible rfl)
        try simp only [Act.put, List.setIfInBounds_toArray, List.set_cons_zero, List.set_cons_succ]
        refine wpAnyH_done (by kernel_rfl) ?_ _
        refine NoPanic.normal ?_
        go_wp2
        go_roundw
        case rel => exact ⟨k + 1, by omega, by go_num, by rw [HE.out]; exact World.ownsRow.kept HO.out (bel_none' hHeld) (Classical.em _), bel_step hBr hHeld⟩
        case measure => simp [intOf]; omega
    · have e : n1 = k := by omega
      have HO : Hid (OwnI w.heap.size wr (.slice va (tnT g r p k).length vc) (trnQ g (r : Int))) := by rw [HQQ.out, e]; exact own_base hown hBW.out.size
      subst e
      clear hown
      go_wp2
      go_ret
      exact ⟨_, rfl, HO.out, bel_step hBW hBr⟩
end Go.Proofs.Ytfdeccmkdhaodaa

