/-
  PROVED: for every rule, every list of tags and every zoom Applies answers as its model does, and what was handed in stays as it was. No condition.
-/
import Derived.Test.YtbebgfhblalghaaStyS
import Derived.Test.YtbebgfhblalghaaStyO
import Derived.Test.YtbebgfhblalghaaDRule
import Derived.Test.YtbebgfhblalghaaDTag
namespace Go.Proofs.Ytbebgfhblalghaa
open Go.ChangeShapes Go.WideShapes Go.ChangeAt Go.RowKit Go.Joins

theorem len_tgSz (l : List TagD) : l.length ≤ tagsSz l := by unfold tagsSz; omega
theorem len_tsSz (l : List TestD) : l.length ≤ testsSz l := by unfold testsSz; omega

set_option maxRecDepth 100000 in
set_option maxHeartbeats 4000000 in
theorem lawFnExactApplies_any (a : Option Addr) (c : Nat) (g : RuleD) (bs : List Nat) (at_ : Option Addr) (ct : Nat) (l : List TagD) (bt : List Nat) (z : Int) (w : World) (hR : Tests w a g.tests bs) (hRm : g.tests.length ≤ maxLen ∧ g.col.size ≤ maxLen) (hT : Tags w at_ l bt) (hm : l.length ≤ maxLen) (_wz : (Lit.int .i64 z).wf = true) :
    Calls Try.prog 9 #[rulV g a g.tests.length c, .slice at_ l.length ct, .int .i64 z] w fun e w' => e = .returned (.bool true) ∧ Bel w w' := by
  obtain ⟨n, hn⟩ : ∃ n, g.tests.length = n := ⟨_, rfl⟩
  obtain ⟨nt, hnt⟩ : ∃ n, l.length = n := ⟨_, rfl⟩
  obtain ⟨hRm, hcm⟩ := hRm
  rw [hn] at hRm ⊢
  rw [hnt] at hm ⊢
  have hM : n ≤ 9223372036854775807 := by unfold maxLen at hRm; omega
  have hMt : nt ≤ 9223372036854775807 := by unfold maxLen at hm; omega
  have Hn : Hid (g.tests.length = n) := hn
  have Hnt : Hid (l.length = nt) := hnt
  have hz1 := len_tsSz g.tests
  have hz2 := len_tgSz l
  rw [hn] at hz1
  rw [hnt] at hz2
  clear hn hnt
  obtain ⟨W, HW⟩ : ∃ W, Hid (W = w.alloc (.cells #[.int .i64 g.low, .int .i64 g.high, .slice a n c, .bool g.hide, .string g.col, .int .i64 g.wd, .int .i64 g.lay] 61)) := ⟨_, (rfl : w.alloc (.cells #[.int .i64 g.low, .int .i64 g.high, .slice a n c, .bool g.hide, .string g.col, .int .i64 g.wd, .int .i64 g.lay] 61) = _)⟩
  have hBW : Bel w W := by rw [HW.out]; exact bel_alloc (Bel.refl _) _
  have XW : Blk W w.heap.size (rulL g a n c) := by rw [HW.out]; exact Blk.new w (rulL g a n c) _
  obtain ⟨q, Hq⟩ : ∃ q, Hid (appB g l z = q) := ⟨_, (rfl : appB g l z = _)⟩
  obtain ⟨r0, H0⟩ : ∃ r, Hid (szR 1048576 (testsSz g.tests + g.col.size) = r) := ⟨_, (rfl : szR 1048576 (testsSz g.tests + g.col.size) = _)⟩
  have b0 : r0 ≤ 1048576 := by rw [← H0.out]; exact (szR_bd (by decide)).1
  obtain ⟨r1, H1⟩ : ∃ r, Hid (szR r0 (tagsSz l) = r) := ⟨_, (rfl : szR r0 (tagsSz l) = _)⟩
  by_cases p0 : 0 ≤ r0
  · have hn' : n ≤ 1048576 := by
      rcases Nat.lt_or_ge 1048576 n with h | h
      · have := H0.out; rw [szR_neg (by omega)] at this; omega
      · exact h
    by_cases p1 : 0 ≤ r1
    · have hnt' : nt ≤ 1048576 := by
        rcases Nat.lt_or_ge 1048576 nt with h | h
        · have := H1.out; rw [szR_neg (by omega)] at this; omega
        · exact h
      clear hz1 hz2
      go_enter Try.func9, Try.ntmps9
      go_wp2_with fail
      rw [← HW.out]
      refine (szRule_any _ _ _ _ _ g.tests bs _ _ _ _ _ _ (hR.bel testE hBW) Hn.out hM hcm (by decide) (by decide)).mono ?_
      rintro e w1 ⟨rfl, hb1⟩
      rw [H0.out]
      have hB1 := bel_step hBW hb1
      have D1 := hb1
      go_wp2_with fail
      refine (szTagS_any _ _ _ l bt _ _ (hT.bel tagE hB1) Hnt.out hMt p0 b0).mono ?_
      rintro e w2 ⟨rfl, hb2⟩
      rw [H1.out]
      have hB2 := bel_step hB1 hb2
      have D2 : Bel W w2 := bel_step D1 hb2
      have X2 := XW.bel D2
      have x20 : w2.cell? ⟨w.heap.size, 0, none⟩ = some (.int .i64 g.low) := X2.cell 0 (by simp [rulL])
      have x21 : w2.cell? ⟨w.heap.size, 1, none⟩ = some (.int .i64 g.high) := X2.cell 1 (by simp [rulL])
      have x22 : w2.cell? ⟨w.heap.size, 2, none⟩ = some (.slice a n c) := X2.cell 2 (by simp [rulL])
      have x23 : w2.cell? ⟨w.heap.size, 3, none⟩ = some (.bool g.hide) := X2.cell 3 (by simp [rulL])
      have x24 : w2.cell? ⟨w.heap.size, 4, none⟩ = some (.string g.col) := X2.cell 4 (by simp [rulL])
      have x25 : w2.cell? ⟨w.heap.size, 5, none⟩ = some (.int .i64 g.wd) := X2.cell 5 (by simp [rulL])
      have x26 : w2.cell? ⟨w.heap.size, 6, none⟩ = some (.int .i64 g.lay) := X2.cell 6 (by simp [rulL])
      have xl2 := X2.lt
      clear hb1 hb2 X2
      go_wp2_with fail
      refine (toRule_any _ _ _ _ _ g.tests bs _ _ _ _ _ (hR.bel testE hB2) Hn.out hn').mono ?_
      rintro e w3 ⟨B3, d3, rfl, u3, _, hb3⟩
      have hB3 := bel_step hB2 hb3
      go_wp2_with fail
      refine (toTagS_any _ _ _ l bt _ (hT.bel tagE hB3) Hnt.out hnt').mono ?_
      rintro e w4 ⟨B4, d4, rfl, u4, _, hb4⟩
      have hB4 := bel_step hB3 hb4
      have u34 := u3.bel testE hb4
      clear u3
      go_wp2_with fail
      refine (specApplies_any g _ _ _ d3 _ _ _ l d4 z _ u34 Hn.out hn' u4 Hnt.out hnt').mono ?_
      rintro e w5 ⟨rfl, hb5⟩
      rw [Hq.out]
      have hB5 := bel_step hB4 hb5
      have D5 : Bel W w5 := bel_step D2 (bel_step hb3 (bel_step hb4 hb5))
      have X5 := XW.bel D5
      have x50 : w5.cell? ⟨w.heap.size, 0, none⟩ = some (.int .i64 g.low) := X5.cell 0 (by simp [rulL])
      have x51 : w5.cell? ⟨w.heap.size, 1, none⟩ = some (.int .i64 g.high) := X5.cell 1 (by simp [rulL])
      have x52 : w5.cell? ⟨w.heap.size, 2, none⟩ = some (.slice a n c) := X5.cell 2 (by simp [rulL])
      have x53 : w5.cell? ⟨w.heap.size, 3, none⟩ = some (.bool g.hide) := X5.cell 3 (by simp [rulL])
      have x54 : w5.cell? ⟨w.heap.size, 4, none⟩ = some (.string g.col) := X5.cell 4 (by simp [rulL])
      have x55 : w5.cell? ⟨w.heap.size, 5, none⟩ = some (.int .i64 g.wd) := X5.cell 5 (by simp [rulL])
      have x56 : w5.cell? ⟨w.heap.size, 6, none⟩ = some (.int .i64 g.lay) := X5.cell 6 (by simp [rulL])
      have xl5 := X5.lt
      clear x20 x21 x22 x23 x24 x25 x26 xl2 u34 u4 hb3 hb4 hb5 X5 D2
      go_wp2_with fail
      refine (toRule_any _ _ _ _ _ g.tests bs _ _ _ _ _ (hR.bel testE hB5) Hn.out hn').mono ?_
      rintro e w6 ⟨B6, d6, rfl, u6, _, hb6⟩
      have hB6 := bel_step hB5 hb6
      obtain ⟨V, HV⟩ : ∃ V, Hid (V = w6.alloc (.cells #[.int .i64 g.low, .int .i64 g.high, .slice (some ⟨B6, 0, none⟩) n n, .bool g.hide, .string g.col, .int .i64 g.wd, .int .i64 g.lay] 68)) := ⟨_, (rfl : w6.alloc (.cells #[.int .i64 g.low, .int .i64 g.high, .slice (some ⟨B6, 0, none⟩) n n, .bool g.hide, .string g.col, .int .i64 g.wd, .int .i64 g.lay] 68) = _)⟩
      have hbV : Bel w6 V := by rw [HV.out]; exact bel_alloc (Bel.refl _) _
      have XV : Blk V w6.heap.size (rulL g (some ⟨B6, 0, none⟩) n n) := by rw [HV.out]; exact Blk.new w6 (rulL g (some ⟨B6, 0, none⟩) n n) _
      have hBV := bel_step hB6 hbV
      have uV := u6.bel testE hbV
      have DV : Bel W V := bel_step D5 (bel_step hb6 hbV)
      clear x50 x51 x52 x53 x54 x55 x56 xl5 u6 hb6 D5
      go_wp2_with fail
      rw [← HV.out]
      refine (toTagS_any _ _ _ l bt _ (hT.bel tagE hBV) Hnt.out hnt').mono ?_
      rintro e w7 ⟨B7, d7, rfl, u7, _, hb7⟩
      have hB7 := bel_step hBV hb7
      have Y7 := XV.bel hb7
      have uV7 := uV.bel testE hb7
      have y70 : w7.cell? ⟨w6.heap.size, 0, none⟩ = some (.int .i64 g.low) := Y7.cell 0 (by simp [rulL])
      have y71 : w7.cell? ⟨w6.heap.size, 1, none⟩ = some (.int .i64 g.high) := Y7.cell 1 (by simp [rulL])
      have y72 : w7.cell? ⟨w6.heap.size, 2, none⟩ = some (.slice (some ⟨B6, 0, none⟩) n n) := Y7.cell 2 (by simp [rulL])
      have y73 : w7.cell? ⟨w6.heap.size, 3, none⟩ = some (.bool g.hide) := Y7.cell 3 (by simp [rulL])
      have y74 : w7.cell? ⟨w6.heap.size, 4, none⟩ = some (.string g.col) := Y7.cell 4 (by simp [rulL])
      have y75 : w7.cell? ⟨w6.heap.size, 5, none⟩ = some (.int .i64 g.wd) := Y7.cell 5 (by simp [rulL])
      have y76 : w7.cell? ⟨w6.heap.size, 6, none⟩ = some (.int .i64 g.lay) := Y7.cell 6 (by simp [rulL])
      have yl7 := Y7.lt
      go_wp2_with fail
      refine (applies_any g _ _ _ d6 _ _ _ l d7 z _ uV7 Hn.out hn' u7 Hnt.out hnt').mono ?_
      rintro e w8 ⟨rfl, hb8⟩
      rw [Hq.out]
      have hB8 := bel_step hB7 hb8
      have D8 : Bel W w8 := bel_step DV (bel_step hb7 hb8)
      have X8 := XW.bel D8
      have Y8 := Y7.bel hb8
      have uV8 := uV7.bel testE hb8
      have u78 := u7.bel tagE hb8
      have hRR : ∀ w', Bel w8 w' → ((w'.cell? ⟨w.heap.size, 0, none⟩ = some (.int .i64 g.low) ∧ w'.cell? ⟨w.heap.size, 1, none⟩ = some (.int .i64 g.high) ∧ w'.cell? ⟨w.heap.size, 2, none⟩ = some (.slice a n c) ∧ w'.cell? ⟨w.heap.size, 3, none⟩ = some (.bool g.hide) ∧ w'.cell? ⟨w.heap.size, 4, none⟩ = some (.string g.col) ∧ w'.cell? ⟨w.heap.size, 5, none⟩ = some (.int .i64 g.wd) ∧ w'.cell? ⟨w.heap.size, 6, none⟩ = some (.int .i64 g.lay)) ∧ w'.cell? ⟨w6.heap.size, 0, none⟩ = some (.int .i64 g.low) ∧ w'.cell? ⟨w6.heap.size, 1, none⟩ = some (.int .i64 g.high) ∧ w'.cell? ⟨w6.heap.size, 2, none⟩ = some (.slice (some ⟨B6, 0, none⟩) n n) ∧ w'.cell? ⟨w6.heap.size, 3, none⟩ = some (.bool g.hide) ∧ w'.cell? ⟨w6.heap.size, 4, none⟩ = some (.string g.col) ∧ w'.cell? ⟨w6.heap.size, 5, none⟩ = some (.int .i64 g.wd) ∧ w'.cell? ⟨w6.heap.size, 6, none⟩ = some (.int .i64 g.lay)) := fun w' h => ⟨⟨(X8.bel h).cell 0 (by simp [rulL]), (X8.bel h).cell 1 (by simp [rulL]), (X8.bel h).cell 2 (by simp [rulL]), (X8.bel h).cell 3 (by simp [rulL]), (X8.bel h).cell 4 (by simp [rulL]), (X8.bel h).cell 5 (by simp [rulL]), (X8.bel h).cell 6 (by simp [rulL])⟩, (Y8.bel h).cell 0 (by simp [rulL]), (Y8.bel h).cell 1 (by simp [rulL]), (Y8.bel h).cell 2 (by simp [rulL]), (Y8.bel h).cell 3 (by simp [rulL]), (Y8.bel h).cell 4 (by simp [rulL]), (Y8.bel h).cell 5 (by simp [rulL]), (Y8.bel h).cell 6 (by simp [rulL])⟩
      have g0 : Bel w8 w8 := Bel.refl _
      clear y70 y71 y72 y73 y74 y75 y76 yl7 hb7 hb8 X8 Y8 Y7 XV uV uV7 u7 DV D8
      have cTo := fun (V' : World) (h : Bel w8 V') => toRule_any g.low g.high a n c g.tests bs g.hide g.col g.wd g.lay V' (hR.bel testE (bel_step hB8 h)) Hn.out hn'
      cases q
      · skip
        go_wp2
        refine wp_region_noPanic ?_
        refine wp_region_held_drew (S := fun w' => Bel w8 w') (by kernel_rfl) (Bel.drew g0) (fun hHeld => ?_)
        refine wpAnyH_take (i := 0) (oi := { dst := some 39, op := Go.Op.load 68 (Go.Operand.tmp 9), type := 68, pos := "exact.go:5141", after := #[], guard := none }) (v := ?vab0) rfl (by kernel_rfl) (by kernel_rfl) (by kernel_rfl) (fun _ _ _ h => h) (Or.inl ⟨by rfl, ?hab0⟩) hHeld ?rab0
        case hab0 => (intro w hSw; (try dsimp only at hSw); go_simp; try with_reducible rfl)
        try simp only [Act.put, List.setIfInBounds_toArray, List.set_cons_zero, List.set_cons_succ]
        refine wpAnyH_take (i := 1) (oi := { dst := some 40, op := Go.Op.load 61 (Go.Operand.tmp 3), type := 61, pos := "exact.go:5141", after := #[], guard := none }) (v := ?vab1) rfl (by kernel_rfl) (by kernel_rfl) (by kernel_rfl) (fun _ _ _ h => h) (Or.inl ⟨by rfl, ?hab1⟩) hHeld ?rab1
        case hab1 => (intro w hSw; (try dsimp only at hSw); go_simp; try with_reducible rfl)
        try simp only [Act.put, List.setIfInBounds_toArray, List.set_cons_zero, List.set_cons_succ]
        refine wpAnyH_ready (rs := [2]) (by kernel_rfl) (by simp) ?_
        refine AllReadyH.cons (o := { dst := some 41, op := Go.Op.call { callee := Go.Callee.value (Go.Operand.func 45), args := #[Go.Operand.tmp 40], argTypes := #[61] }, type := 68, pos := "exact.go:5141", after := #[{ on := 1, ground := Go.Ground.data }], guard := none }) rfl (fun K hK => ?_) AllReadyH.nil
        go_simp
        refine (cTo _ hHeld).mono ?_
        rintro e w9 ⟨B9, d9, rfl, u9, _, hbk⟩
        go_wp2_with fail
        refine hK.out _ _ (bel_step hHeld hbk) (fun hHeld' => ?_)
        clear hK K hHeld
        have hHeld := hHeld'
        clear hHeld'
        try simp only [Act.put, List.setIfInBounds_toArray, List.set_cons_zero, List.set_cons_succ]
        refine wpAnyH_ready (rs := [3]) (by kernel_rfl) (by simp) ?_
        refine AllReadyH.cons (o := { dst := some 42, op := Go.Op.call { callee := Go.Callee.value (Go.Operand.func 48), args := #[Go.Operand.tmp 39, Go.Operand.tmp 41], argTypes := #[68, 68] }, type := 4, pos := "exact.go:5141", after := #[{ on := 0, ground := Go.Ground.data }, { on := 2, ground := Go.Ground.data }, { on := 2, ground := Go.Ground.chain }], guard := none }) rfl (fun K hK => ?_) AllReadyH.nil
        go_simp
        refine (eqRule_same _ _ _ _ _ g.tests d6 _ _ _ _ _ _ d9 _ (uV8.bel testE hHeld) Hn.out (by first | exact u9 | exact u9.bel testE (Bel.drew (Bel.refl _))) hn').mono ?_
        rintro e w10 ⟨rfl, hbk⟩
        go_wp2_with fail
        refine hK.out _ _ (bel_step hHeld hbk) (fun hHeld' => ?_)
        clear hK K hHeld
        have hHeld := hHeld'
        clear hHeld'
        try simp only [Act.put, List.setIfInBounds_toArray, List.set_cons_zero, List.set_cons_succ]
        refine wpAnyH_take (i := 4) (oi := { dst := some 43, op := Go.Op.unOp Go.UnOp.not 4 (Go.Operand.tmp 42), type := 4, pos := "exact.go:5141", after := #[{ on := 3, ground := Go.Ground.data }], guard := none }) (v := ?vab4) rfl (by kernel_rfl) (by kernel_rfl) (by kernel_rfl) (fun _ _ _ h => h) (Or.inl ⟨by rfl, ?hab4⟩) hHeld ?rab4
        case hab4 => (intro w hSw; (try dsimp only at hSw); go_simp; try with_reducible rfl)
        try simp only [Act.put, List.setIfInBounds_toArray, List.set_cons_zero, List.set_cons_succ]
        refine wpAnyH_done (by kernel_rfl) ?_ _
        refine NoPanic.normal ?_
        have hB10 := bel_step hB8 hHeld
        have u7x := u78.bel tagE hHeld
        clear u9 hRR cTo
        go_wp2_with fail
        refine (toTagS_any _ _ _ l bt _ (hT.bel tagE hB10) Hnt.out hnt').mono ?_
        rintro e w11 ⟨B11, d11, rfl, u11, _, hb11⟩
        have hB11 := bel_step hB10 hb11
        go_wp2_with fail
        refine (eqTagS_same _ _ _ _ _ l d7 d11 _ (u7x.bel tagE hb11) u11 Hnt.out hnt').mono ?_
        rintro e w12 ⟨rfl, hb12⟩
        go_wp2
        go_ret
        exact ⟨rfl, bel_step hB11 hb12⟩
      · skip
        go_wp2
        refine wp_region_noPanic ?_
        refine wp_region_held_drew (S := fun w' => Bel w8 w') (by kernel_rfl) (Bel.drew g0) (fun hHeld => ?_)
        refine wpAnyH_take (i := 0) (oi := { dst := some 39, op := Go.Op.load 68 (Go.Operand.tmp 9), type := 68, pos := "exact.go:5141", after := #[], guard := none }) (v := ?vac0) rfl (by kernel_rfl) (by kernel_rfl) (by kernel_rfl) (fun _ _ _ h => h) (Or.inl ⟨by rfl, ?hac0⟩) hHeld ?rac0
        case hac0 => (intro w hSw; (try dsimp only at hSw); go_simp; try with_reducible rfl)
        try simp only [Act.put, List.setIfInBounds_toArray, List.set_cons_zero, List.set_cons_succ]
        refine wpAnyH_take (i := 1) (oi := { dst := some 40, op := Go.Op.load 61 (Go.Operand.tmp 3), type := 61, pos := "exact.go:5141", after := #[], guard := none }) (v := ?vac1) rfl (by kernel_rfl) (by kernel_rfl) (by kernel_rfl) (fun _ _ _ h => h) (Or.inl ⟨by rfl, ?hac1⟩) hHeld ?rac1
        case hac1 => (intro w hSw; (try dsimp only at hSw); go_simp; try with_reducible rfl)
        try simp only [Act.put, List.setIfInBounds_toArray, List.set_cons_zero, List.set_cons_succ]
        refine wpAnyH_ready (rs := [2]) (by kernel_rfl) (by simp) ?_
        refine AllReadyH.cons (o := { dst := some 41, op := Go.Op.call { callee := Go.Callee.value (Go.Operand.func 45), args := #[Go.Operand.tmp 40], argTypes := #[61] }, type := 68, pos := "exact.go:5141", after := #[{ on := 1, ground := Go.Ground.data }], guard := none }) rfl (fun K hK => ?_) AllReadyH.nil
        go_simp
        refine (cTo _ hHeld).mono ?_
        rintro e w9 ⟨B9, d9, rfl, u9, _, hbk⟩
        go_wp2_with fail
        refine hK.out _ _ (bel_step hHeld hbk) (fun hHeld' => ?_)
        clear hK K hHeld
        have hHeld := hHeld'
        clear hHeld'
        try simp only [Act.put, List.setIfInBounds_toArray, List.set_cons_zero, List.set_cons_succ]
        refine wpAnyH_ready (rs := [3]) (by kernel_rfl) (by simp) ?_
        refine AllReadyH.cons (o := { dst := some 42, op := Go.Op.call { callee := Go.Callee.value (Go.Operand.func 48), args := #[Go.Operand.tmp 39, Go.Operand.tmp 41], argTypes := #[68, 68] }, type := 4, pos := "exact.go:5141", after := #[{ on := 0, ground := Go.Ground.data }, { on := 2, ground := Go.Ground.data }, { on := 2, ground := Go.Ground.chain }], guard := none }) rfl (fun K hK => ?_) AllReadyH.nil
        go_simp
        refine (eqRule_same _ _ _ _ _ g.tests d6 _ _ _ _ _ _ d9 _ (uV8.bel testE hHeld) Hn.out (by first | exact u9 | exact u9.bel testE (Bel.drew (Bel.refl _))) hn').mono ?_
        rintro e w10 ⟨rfl, hbk⟩
        go_wp2_with fail
        refine hK.out _ _ (bel_step hHeld hbk) (fun hHeld' => ?_)
        clear hK K hHeld
        have hHeld := hHeld'
        clear hHeld'
        try simp only [Act.put, List.setIfInBounds_toArray, List.set_cons_zero, List.set_cons_succ]
        refine wpAnyH_take (i := 4) (oi := { dst := some 43, op := Go.Op.unOp Go.UnOp.not 4 (Go.Operand.tmp 42), type := 4, pos := "exact.go:5141", after := #[{ on := 3, ground := Go.Ground.data }], guard := none }) (v := ?vac4) rfl (by kernel_rfl) (by kernel_rfl) (by kernel_rfl) (fun _ _ _ h => h) (Or.inl ⟨by rfl, ?hac4⟩) hHeld ?rac4
        case hac4 => (intro w hSw; (try dsimp only at hSw); go_simp; try with_reducible rfl)
        try simp only [Act.put, List.setIfInBounds_toArray, List.set_cons_zero, List.set_cons_succ]
        refine wpAnyH_done (by kernel_rfl) ?_ _
        refine NoPanic.normal ?_
        have hB10 := bel_step hB8 hHeld
        have u7x := u78.bel tagE hHeld
        clear u9 hRR cTo
        go_wp2_with fail
        refine (toTagS_any _ _ _ l bt _ (hT.bel tagE hB10) Hnt.out hnt').mono ?_
        rintro e w11 ⟨B11, d11, rfl, u11, _, hb11⟩
        have hB11 := bel_step hB10 hb11
        go_wp2_with fail
        refine (eqTagS_same _ _ _ _ _ l d7 d11 _ (u7x.bel tagE hb11) u11 Hnt.out hnt').mono ?_
        rintro e w12 ⟨rfl, hb12⟩
        go_wp2
        go_ret
        exact ⟨rfl, bel_step hB11 hb12⟩
    · clear hz1 hz2
      go_enter Try.func9, Try.ntmps9
      go_wp2_with fail
      rw [← HW.out]
      refine (szRule_any _ _ _ _ _ g.tests bs _ _ _ _ _ _ (hR.bel testE hBW) Hn.out hM hcm (by decide) (by decide)).mono ?_
      rintro e w1 ⟨rfl, hb1⟩
      rw [H0.out]
      have hB1 := bel_step hBW hb1
      go_wp2_with fail
      refine (szTagS_any _ _ _ l bt _ _ (hT.bel tagE hB1) Hnt.out hMt p0 b0).mono ?_
      rintro e w2 ⟨rfl, hb2⟩
      rw [H1.out]
      go_wp2
      go_ret
      exact ⟨rfl, bel_step hB1 hb2⟩
  · clear hz1 hz2
    go_enter Try.func9, Try.ntmps9
    go_wp2_with fail
    rw [← HW.out]
    refine (szRule_any _ _ _ _ _ g.tests bs _ _ _ _ _ _ (hR.bel testE hBW) Hn.out hM hcm (by decide) (by decide)).mono ?_
    rintro e w1 ⟨rfl, hb1⟩
    rw [H0.out]
    go_wp2
    go_ret
    exact ⟨rfl, bel_step hBW hb1⟩

theorem fnExactApplies_own : ownKnob Try.prog.godebug = none := by kernel_rfl
theorem fnExactApplies_laidOut : laidOutB Try.prog = true := by kernel_rfl

set_option maxRecDepth 100000 in
theorem fnExactApplies_lifted (os : Os) (started : os.Started) (H : Type) (enc : TypeId × Value → H) :
    ReturnsInHanded {} Try.checked os 9 .any (Rows.fnExactAppliesSpec.pre6 enc Try.prog Try.f9 Rows.fnExactAppliesRow.domain false) (Rows.fnExactAppliesSpec.post enc Try.prog Try.f9 false true false false) := by
  refine returnsInHanded_of_change (C := Try.checked) fnExactApplies_own started (by kernel_rfl) Try.func9
    (ChangeSpec.witness6 (enc := enc) (C := Try.checked) false ⟨#[], #[.agg #[.int .i64 0, .int .i64 0, .slice none 0 0, .bool false, .string ⟨#[]⟩, .int .i64 0, .int .i64 0], .slice none 0 0, .int .i64 0], []⟩ 8 (by kernel_rfl) (by kernel_rfl) (by kernel_rfl) (by kernel_rfl)) ?_
  intro W base args ds gs before hval0 hW hcnd _
  have hval : ∀ (j : Nat) t v, Try.f9.params[j]? = some t → args[j]? = some v → Value.okWide Try.prog W .any base t v := hval0
  have hW' := hW
  obtain ⟨p, q, hA0, hV, rfl, hfz, hnd⟩ := hW
  have hA : DataW.TrodAll enc Try.prog W 0 (fun _ => true) true Try.f9.params.toList args.toList ds p := hA0
  rw [Try.params9] at hA hval
  obtain ⟨v0, vs0, d0, ds0, p0, q0, hargs, rfl, rfl, h0, r0⟩ := trodAll_cons hA
  obtain ⟨v1, vs1, d1, ds1, p1, q1, rfl, rfl, rfl, h1, r1⟩ := trodAll_cons r0
  obtain ⟨v2, vs2, d2, ds2, p2, q2, rfl, rfl, rfl, h2, r2⟩ := trodAll_cons r1
  obtain ⟨rfl, rfl, rfl⟩ := trodAll_nil r2
  obtain rfl : args = #[v0, v1, v2] := by cases args; simp_all
  obtain ⟨rfl, rfl⟩ := trodVars_none hV
  have k0 := h0
  have lt0 : ∀ x ∈ p0, x.block < W.heap.size := by obtain ⟨m, hm⟩ := k0; exact DataW.trod_lt m _ _ _ hm
  obtain ⟨a0, c0, g0, bs0, rfl, ip0, im0⟩ := open_rule (hval 0 61 v0 rfl rfl) h0
  have k1 := h1
  have lt1 : ∀ x ∈ p1, x.block < W.heap.size := by obtain ⟨m, hm⟩ := k1; exact DataW.trod_lt m _ _ _ hm
  obtain ⟨a1, c1, l1, bs1, rfl, ip1, im1⟩ := open_tags (hval 1 62 v1 rfl rfl) h1
  have k2 := h2
  have lt2 : ∀ x ∈ p2, x.block < W.heap.size := by obtain ⟨m, hm⟩ := k2; exact DataW.trod_lt m _ _ _ hm
  obtain ⟨x2, rfl, _, _, wx2⟩ := open_int Try.underlying2 (hval 2 2 v2 rfl rfl) h2
  clear hA0 hval0
  refine (lawFnExactApplies_any a0 c0 g0 bs0 a1 c1 l1 bs1 x2 W ip0 im0 ip1 im1 wx2).mono fun e W' ⟨he, bel0⟩ => ?_
  have bel := bel0.out
  subst he
  exact ⟨_, rfl, _, _, _, [], _, [], hW', trodAll_mk1 (shut_bool Try.underlying4 _), (trodAll_cons_mk (Below.trod fnExactApplies_laidOut (by kernel_rfl) (of_decide_eq_true (by kernel_rfl)) k0 bel lt0) (trodAll_cons_mk (Below.trod fnExactApplies_laidOut (by kernel_rfl) (of_decide_eq_true (by kernel_rfl)) k1 bel lt1) (trodAll_cons_mk (Below.trod fnExactApplies_laidOut (by kernel_rfl) (of_decide_eq_true (by kernel_rfl)) k2 bel lt2) trodAll_mk0))), rfl, bel.frame _, fun h => by cases h⟩

theorem fnExactApplies_over : Rows.fnExactAppliesRow.holds Try.pinned (OpenSpec.ofChange Rows.fnExactAppliesSpec) :=
  OpenClaim.holds_of_wide 9 Try.f9 rfl rfl rfl rfl rfl rfl rfl ⟨rfl, rfl, rfl, rfl, rfl⟩ rfl rfl rfl rfl rfl (by kernel_rfl) Try.func9 (by kernel_rfl)
    (of_decide_eq_true (by kernel_rfl)) (by unfold Func.isWrapper; first | (rw [if_pos (by decide +kernel)]; kernel_rfl) | (rw [if_neg (by decide +kernel)]; exact ⟨rfl, rfl⟩))
    (fun os started H enc _ => fnExactApplies_lifted os started H enc)

theorem fnExactApplies_holds : Rows.FnExactAppliesSaid := fnExactApplies_over
#print axioms fnExactApplies_holds
end Go.Proofs.Ytbebgfhblalghaa

