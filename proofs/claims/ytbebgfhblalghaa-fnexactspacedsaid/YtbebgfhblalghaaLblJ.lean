/-
  The model's question whether two labels overlap; whether labels can be, in the program and in its model: contracts.
-/
import Derived.Test.YtbebgfhblalghaaLblI
import Derived.Test.YtbebgfhblalghaaAreaC
namespace Go.Proofs.Ytbebgfhblalghaa
open Go.RowKit Go.Maps

set_option maxRecDepth 100000 in
set_option maxHeartbeats 2000000 in
theorem l8Overlap_any (d e : LblD) (r : Bool) (w : World) (hr : ovB d e = r) (kd : lblK d = true) (ke : lblK e = true) :
    Calls Try.prog 91 #[lbv d, lbv e] w fun r' w' => r' = .returned (.bool r) ∧ Bel w w' := by
  have Hr : Hid (ovB d e = r) := hr
  obtain ⟨_, ⟨x0, x1, y0, y1⟩, ⟨w0, w1⟩, ⟨t0, t1⟩, _, _⟩ := lblK_out kd
  obtain ⟨_, ⟨x2, x3, y2, y3⟩, ⟨w2, w3⟩, ⟨t2, t3⟩, _, _⟩ := lblK_out ke
  clear kd ke hr
  by_cases h1 : d.x < e.x + e.wd <;> by_cases h2 : e.x < d.x + d.wd <;> by_cases h3 : d.y < e.y + e.ht <;> by_cases h4 : e.y < d.y + d.ht <;> first | (exfalso; omega) | (
    have HF : Hid (r = (decide (d.x < e.x + e.wd) && (decide (e.x < d.x + d.wd) && (decide (d.y < e.y + e.ht) && decide (e.y < d.y + d.ht))))) := Hr.out.symm
    go_enter Try.func91, Try.ntmps91
    go_wp2
    go_ret
    exact ⟨ret_bl (by rw [HF.out]; simp [h1, h2, h3, h4]), bxL_bel w d e⟩)

set_option maxRecDepth 100000 in
set_option maxHeartbeats 2000000 in
theorem specOverlap_any (d e : LblD) (w : World) :
    Calls Try.prog 19 #[lbv d, lbv e] w fun r w' => r = .returned (.bool (ovQ d e)) ∧ Bel w w' := by
  have hR := bxL_cells w d e
  have g0 : Bel (bxL w d e) (bxL w d e) := Bel.refl _
  have hB := bxL_bel w d e
  have hs : w.heap.size + 1 < (bxL w d e).heap.size := by simp [bxL]
  rcases Bool.eq_false_or_eq_true (lblK d) with k0 | k0
  · rcases Bool.eq_false_or_eq_true (lblK e) with k1 | k1
    · obtain ⟨r, Hr⟩ : ∃ r, Hid (ovB d e = r) := ⟨_, (rfl : ovB d e = _)⟩
      have hv : ovQ d e = r := by rw [← Hr.out]; simp [ovQ, k0, k1]
      rw [hv]; clear hv
      go_enter Try.func19, Try.ntmps19
      go_wp2_with fail
      refine (l8Ok_r d true _ k0).mono ?_
      rintro e1 w1 ⟨rfl, hb1⟩
      have s1 : Bel (bxL w d e) w1 := hb1
      have q1 := hR w1 s1
      clear hb1
      go_wp2_with fail
      refine (l8Ok_r e true _ k1).mono ?_
      rintro e2 w2 ⟨rfl, hb2⟩
      have s2 := bel_step s1 hb2
      have q2 := hR w2 s2
      clear hb2
      go_wp2_with fail
      refine (l8Overlap_any d e r _ Hr.out k0 k1).mono ?_
      rintro e3 w3 ⟨rfl, hb3⟩
      have s3 := bel_step hB (bel_step s2 hb3)
      clear hb3 s1 s2
      go_wp2
      go_ret
      exact ⟨rfl, s3⟩
    · have hv : ovQ d e = false := by simp [ovQ, k0, k1]
      rw [hv]; clear hv
      go_enter Try.func19, Try.ntmps19
      go_wp2_with fail
      refine (l8Ok_r d true _ k0).mono ?_
      rintro e1 w1 ⟨rfl, hb1⟩
      have s1 : Bel (bxL w d e) w1 := hb1
      have q1 := hR w1 s1
      clear hb1
      go_wp2_with fail
      refine (l8Ok_r e false _ k1).mono ?_
      rintro e2 w2 ⟨rfl, hb2⟩
      have s2 := bel_step hB (bel_step s1 hb2)
      clear hb2 s1
      go_wp2
      go_ret
      exact ⟨rfl, s2⟩
  · have hv : ovQ d e = false := by simp [ovQ, k0]
    rw [hv]; clear hv
    go_enter Try.func19, Try.ntmps19
    go_wp2_with fail
    refine (l8Ok_r d false _ k0).mono ?_
    rintro e1 w1 ⟨rfl, hb1⟩
    have s1 : Bel w w1 := bel_step hB hb1
    clear hb1
    go_wp2
    go_ret
    exact ⟨rfl, s1⟩

set_option maxHeartbeats 1000000 in
theorem l8Find_any (a : Option Addr) (n c : Nat) (l : List LblD) (bs : List Nat) (x : Int) (r : Bool) (w : World) (hT : LblL w a l bs) (hn : l.length = n) (hm : n ≤ 1048576) (hr : fndB l x = r) :
    Calls Try.prog 86 #[.slice a n c, .int .i64 x] w fun e w' => ∃ k : Int, e = .returned (.int .i64 k) ∧ (decide (0 ≤ k) = r) ∧ w' = w := by
  have Hn : Hid (l.length = n) := hn
  have Hr : Hid (fndB l x = r) := hr
  clear hn hr
  go_enter Try.func86, Try.ntmps86
  go_wp2
  go_loop [5] (fun i => ∃ k : Nat, k ≤ n ∧ i = .int .i64 k ∧ ∀ j (h : j < l.length), j < k → l[j].id ≠ x) (fun i => n - (intOf i).toNat)
  case atStart => exact ⟨0, Nat.zero_le _, rfl, fun j _ hj => absurd hj (Nat.not_lt_zero _)⟩
  case round =>
    obtain ⟨k, hk, rfl, hall⟩ := hrel
    have H : Hid (∀ j (h : j < l.length), j < k → l[j].id ≠ x) := hall
    clear hall
    by_cases hlt : k < n
    · have hkl : k < l.length := by rw [Hn.out]; exact hlt
      obtain ⟨b, off, f, rfl, hb, hx⟩ := hT.out hkl
      obtain ⟨_, _, _, _, _, _, _, c0, _⟩ := hx k hkl
      obtain ⟨y, Hy⟩ : ∃ y, Hid (y = l[k].id) := ⟨_, (rfl : l[k].id = _)⟩
      rw [← Hy.out] at c0
      clear hx hT
      by_cases he : y = x
      · have HF : Hid (decide (0 ≤ (k : Int)) = r) := by
          rw [← Hr.out, decide_eq_true (by omega)]
          exact (List.any_eq_true.2 ⟨l[k], List.getElem_mem hkl, by rw [← Hy.out]; exact decide_eq_true he⟩ : l.any _ = true).symm
        subst he
        go_wp2
        go_ret
        exact ⟨_, rfl, HF.out, rfl⟩
      · go_wp2
        go_roundw
        case rel => exact ⟨k + 1, by omega, by go_num, fun j h hj => by
                        (by_cases e : j = k)
                        · subst e; rw [← Hy.out]; exact he
                        · exact H.out j h (by omega)⟩
        case measure => simp [intOf]; omega
    · have hf : fndB l x = false := by
        unfold fndB
        rw [List.any_eq_false]
        intro d hd
        obtain ⟨i, hi, rfl⟩ := List.mem_iff_getElem.1 hd
        simpa using H.out i hi (by rw [Hn.out] at hi; omega)
      have HF : Hid (decide (0 ≤ (-1 : Int)) = r) := by rw [← Hr.out, hf]; exact rfl
      clear hf
      go_wp2
      go_ret
      exact ⟨_, rfl, HF.out, rfl⟩

set_option maxRecDepth 100000 in
set_option maxHeartbeats 4000000 in
theorem specLabelsOk_any (a : Option Addr) (n c : Nat) (l : List LblD) (bs : List Nat) (w : World) (hT : LblL w a l bs) (hn : l.length = n) (hm : n ≤ 1048576) (hc : n ≤ c) :
    Calls Try.prog 15 #[.slice a n c] w fun e w' => e = .returned (.bool (bP (lblsP l))) ∧ Bel w w' := by
  have Hn : Hid (l.length = n) := hn
  clear hn
  by_cases h5 : n ≤ 500
  · go_enter Try.func15, Try.ntmps15
    go_wp2
    go_loopw [3] (fun i wr => ∃ k : Nat, k ≤ n ∧ i = .int .i64 k ∧ (∀ i (h : i < l.length), i < k → lblK l[i] = true ∧ ∀ j (hj : j < i), (l[j]'(by omega)).id ≠ l[i].id) ∧ Bel w wr) (fun i _ => n - (intOf i).toNat)
    case atStart => exact ⟨0, Nat.zero_le _, rfl, fun j _ hj => absurd hj (Nat.not_lt_zero _), Bel.refl _⟩
    case round =>
      obtain ⟨k, hk, rfl, hall, hbel⟩ := hrel
      have H : Hid (∀ i (h : i < l.length), i < k → lblK l[i] = true ∧ ∀ j (hj : j < i), (l[j]'(by omega)).id ≠ l[i].id) := hall
      clear hall
      by_cases hlt : k < n
      · have hkl : k < l.length := by rw [Hn.out]; exact hlt
        have hTr := hT.bel lblE hbel
        obtain ⟨cs, hTk⟩ := hTr.take k (by omega)
        obtain ⟨b, off, f, rfl, hb, hx⟩ := hTr.out hkl
        obtain ⟨_, i0, i1, i2, i3, i4, i5, c0, c1, c2, c3, c4, c5⟩ := hx k hkl
        obtain ⟨d, Hd⟩ : ∃ d, Hid (d = l[k]) := ⟨_, (rfl : l[k] = _)⟩
        rw [← Hd.out] at c0 c1 c2 c3 c4 c5
        have hR : ∀ w', Bel wr w' → (w'.cell? ⟨b, off + k * 6, none⟩ = some (.int .i64 d.id) ∧ w'.cell? ⟨b, off + k * 6 + 1, none⟩ = some (.int .i64 d.x) ∧ w'.cell? ⟨b, off + k * 6 + 2, none⟩ = some (.int .i64 d.y) ∧ w'.cell? ⟨b, off + k * 6 + 3, none⟩ = some (.int .i64 d.wd) ∧ w'.cell? ⟨b, off + k * 6 + 4, none⟩ = some (.int .i64 d.ht) ∧ w'.cell? ⟨b, off + k * 6 + 5, none⟩ = some (.int .i64 d.rk)) :=
          fun w' h => ⟨bel_cellM h hb c0, bel_cellM h hb c1, bel_cellM h hb c2, bel_cellM h hb c3, bel_cellM h hb c4, bel_cellM h hb c5⟩
        have g0 : Bel wr wr := Bel.refl _
        have hlt' : (k : Int) < (n : Int) := by omega
        have hk0 : ¬ ((k : Int) < 0) := by omega
        have hkc : k ≤ c := by omega
        clear hx hT i0 i1 i2 i3 i4 i5
        rcases Bool.eq_false_or_eq_true (lblK d) with hf | hf
        · have hfn := fndB_iff (x := d.id) (show k ≤ l.length by omega)
          rcases Bool.eq_false_or_eq_true (bP (idsTo l k d.id)) with hp | hp
          · have HF : Hid (false = bP (lblsP l)) := (lblsP_two hkl (by rw [← Hd.out]; exact bP_out hp)).symm
            have cF := fun (W : World) (h : Bel wr W) => l8Find_any (some ⟨b, off, none⟩) k c (l.take k) cs d.id true W (hTk.bel lblE h) (by simp; omega) (by omega) (by rw [hfn, hp])
            clear c0 c1 c2 c3 c4 c5 hfn hTk hTr
            go_wp2
            refine wp_region_noPanic ?_
            refine wp_region_held_drew (S := fun w' => Bel wr w') (by kernel_rfl) (Bel.drew g0) (fun hHeld => ?_)
            refine wpAnyH_take (i := 0) (oi := { dst := some 13, op := Go.Op.move (Go.Operand.tmp 0), type := 25, pos := "l08_labels.go:14", after := #[], guard := none }) (v := ?vab0) rfl (by kernel_rfl) (by kernel_rfl) (by kernel_rfl) (fun _ _ _ h => h) (Or.inl ⟨by rfl, ?hab0⟩) hHeld ?rab0
            case hab0 => (intro w hSw; (try dsimp only at hSw); go_simp; try with_reducible rfl)
            try simp only [Act.put, List.setIfInBounds_toArray, List.set_cons_zero, List.set_cons_succ]
            refine wpAnyH_take (i := 1) (oi := { dst := some 14, op := Go.Op.move (Go.Operand.tmp 3), type := 3, pos := "l08_labels.go:14", after := #[], guard := none }) (v := ?vab1) rfl (by kernel_rfl) (by kernel_rfl) (by kernel_rfl) (fun _ _ _ h => h) (Or.inl ⟨by rfl, ?hab1⟩) hHeld ?rab1
            case hab1 => (intro w hSw; (try dsimp only at hSw); go_simp; try with_reducible rfl)
            try simp only [Act.put, List.setIfInBounds_toArray, List.set_cons_zero, List.set_cons_succ]
            refine wpAnyH_take (i := 2) (oi := { dst := some 15, op := Go.Op.indexAddr 25 (Go.Operand.tmp 13) (Go.Operand.tmp 14), type := 0, pos := "l08_labels.go:14", after := #[{ on := 0, ground := Go.Ground.data }, { on := 1, ground := Go.Ground.data }], guard := none }) (v := ?vab2) rfl (by kernel_rfl) (by kernel_rfl) (by kernel_rfl) (fun _ _ _ h => h) (Or.inl ⟨by rfl, ?hab2⟩) hHeld ?rab2
            case hab2 => (intro w hSw; (try dsimp only at hSw); go_simp; try with_reducible rfl)
            try simp only [Act.put, List.setIfInBounds_toArray, List.set_cons_zero, List.set_cons_succ]
            refine wpAnyH_take (i := 3) (oi := { dst := some 16, op := Go.Op.load 36 (Go.Operand.tmp 15), type := 36, pos := "l08_labels.go:14", after := #[{ on := 2, ground := Go.Ground.data }], guard := none }) (v := ?vab3) rfl (by kernel_rfl) (by kernel_rfl) (by kernel_rfl) (fun _ _ _ h => h) (Or.inl ⟨by rfl, ?hab3⟩) hHeld ?rab3
            case hab3 => (intro w hSw; (try dsimp only at hSw); go_simp; try with_reducible rfl)
            try simp only [Act.put, List.setIfInBounds_toArray, List.set_cons_zero, List.set_cons_succ]
            refine wpAnyH_ready (rs := [4]) (by kernel_rfl) (by simp) ?_
            refine AllReadyH.cons (o := { dst := some 17, op := Go.Op.call { callee := Go.Callee.value (Go.Operand.func 85), args := #[Go.Operand.tmp 16], argTypes := #[36] }, type := 4, pos := "l08_labels.go:14", after := #[{ on := 3, ground := Go.Ground.data }], guard := none }) rfl (fun K hK => ?_) AllReadyH.nil
            go_simp
            refine (l8Ok_r d true _ hf).mono ?_
            rintro e w1 ⟨rfl, hbk⟩
            go_wp2_with fail
            refine hK.out _ _ ((by first | exact bel_step hHeld hbk | exact hHeld)) (fun hHeld' => ?_)
            clear hK K hHeld
            have hHeld := hHeld'
            clear hHeld'
            try simp only [Act.put, List.setIfInBounds_toArray, List.set_cons_zero, List.set_cons_succ]
            refine wpAnyH_take (i := 5) (oi := { dst := some 18, op := Go.Op.unOp Go.UnOp.not 4 (Go.Operand.tmp 17), type := 4, pos := "l08_labels.go:14", after := #[{ on := 4, ground := Go.Ground.data }], guard := none }) (v := ?vab5) rfl (by kernel_rfl) (by kernel_rfl) (by kernel_rfl) (fun _ _ _ h => h) (Or.inl ⟨by rfl, ?hab5⟩) hHeld ?rab5
            case hab5 => (intro w hSw; (try dsimp only at hSw); go_simp; try with_reducible rfl)
            try simp only [Act.put, List.setIfInBounds_toArray, List.set_cons_zero, List.set_cons_succ]
            refine wpAnyH_take (i := 6) (oi := { dst := some 19, op := Go.Op.move (Go.Operand.tmp 18), type := 4, pos := "l08_labels.go:14", after := #[{ on := 5, ground := Go.Ground.data }, { on := 4, ground := Go.Ground.chain }], guard := none }) (v := ?vab6) rfl (by kernel_rfl) (by kernel_rfl) (by kernel_rfl) (fun _ _ _ h => h) (Or.inl ⟨by rfl, ?hab6⟩) hHeld ?rab6
            case hab6 => (intro w hSw; (try dsimp only at hSw); go_simp; try with_reducible rfl)
            try simp only [Act.put, List.setIfInBounds_toArray, List.set_cons_zero, List.set_cons_succ]
            refine wpAnyH_take (i := 7) (oi := { dst := some 20, op := Go.Op.move (Go.Operand.tmp 0), type := 25, pos := "l08_labels.go:14", after := #[{ on := 6, ground := Go.Ground.guard }], guard := some (6, false) }) (v := ?vab7) rfl (by kernel_rfl) (by kernel_rfl) (by kernel_rfl) (fun _ _ _ h => h) (Or.inl ⟨by rfl, ?hab7⟩) hHeld ?rab7
            case hab7 => (intro w hSw; (try dsimp only at hSw); go_simp; try with_reducible rfl)
            try simp only [Act.put, List.setIfInBounds_toArray, List.set_cons_zero, List.set_cons_succ]
            refine wpAnyH_take (i := 8) (oi := { dst := some 21, op := Go.Op.move (Go.Operand.tmp 3), type := 3, pos := "l08_labels.go:14", after := #[{ on := 6, ground := Go.Ground.guard }], guard := some (6, false) }) (v := ?vab8) rfl (by kernel_rfl) (by kernel_rfl) (by kernel_rfl) (fun _ _ _ h => h) (Or.inl ⟨by rfl, ?hab8⟩) hHeld ?rab8
            case hab8 => (intro w hSw; (try dsimp only at hSw); go_simp; try with_reducible rfl)
            try simp only [Act.put, List.setIfInBounds_toArray, List.set_cons_zero, List.set_cons_succ]
            refine wpAnyH_take (i := 9) (oi := { dst := some 22, op := Go.Op.slice 25 (Go.Operand.tmp 20) none (some (Go.Operand.tmp 21)) none, type := 25, pos := "l08_labels.go:14", after := #[{ on := 7, ground := Go.Ground.data }, { on := 8, ground := Go.Ground.data }, { on := 6, ground := Go.Ground.guard }], guard := some (6, false) }) (v := ?vab9) rfl (by kernel_rfl) (by kernel_rfl) (by kernel_rfl) (fun _ _ _ h => h) (Or.inl ⟨by rfl, ?hab9⟩) hHeld ?rab9
            case hab9 => (intro w hSw; (try dsimp only at hSw); go_simp; try with_reducible rfl)
            try simp only [Act.put, List.setIfInBounds_toArray, List.set_cons_zero, List.set_cons_succ]
            refine wpAnyH_take (i := 10) (oi := { dst := some 23, op := Go.Op.move (Go.Operand.tmp 0), type := 25, pos := "l08_labels.go:14", after := #[{ on := 6, ground := Go.Ground.guard }], guard := some (6, false) }) (v := ?vab10) rfl (by kernel_rfl) (by kernel_rfl) (by kernel_rfl) (fun _ _ _ h => h) (Or.inl ⟨by rfl, ?hab10⟩) hHeld ?rab10
            case hab10 => (intro w hSw; (try dsimp only at hSw); go_simp; try with_reducible rfl)
            try simp only [Act.put, List.setIfInBounds_toArray, List.set_cons_zero, List.set_cons_succ]
            refine wpAnyH_take (i := 11) (oi := { dst := some 24, op := Go.Op.move (Go.Operand.tmp 3), type := 3, pos := "l08_labels.go:14", after := #[{ on := 6, ground := Go.Ground.guard }], guard := some (6, false) }) (v := ?vab11) rfl (by kernel_rfl) (by kernel_rfl) (by kernel_rfl) (fun _ _ _ h => h) (Or.inl ⟨by rfl, ?hab11⟩) hHeld ?rab11
            case hab11 => (intro w hSw; (try dsimp only at hSw); go_simp; try with_reducible rfl)
            try simp only [Act.put, List.setIfInBounds_toArray, List.set_cons_zero, List.set_cons_succ]
            refine wpAnyH_take (i := 12) (oi := { dst := some 25, op := Go.Op.indexAddr 25 (Go.Operand.tmp 23) (Go.Operand.tmp 24), type := 0, pos := "l08_labels.go:14", after := #[{ on := 10, ground := Go.Ground.data }, { on := 11, ground := Go.Ground.data }, { on := 6, ground := Go.Ground.guard }], guard := some (6, false) }) (v := ?vab12) rfl (by kernel_rfl) (by kernel_rfl) (by kernel_rfl) (fun _ _ _ h => h) (Or.inl ⟨by rfl, ?hab12⟩) hHeld ?rab12
            case hab12 => (intro w hSw; (try dsimp only at hSw); go_simp; try with_reducible rfl)
            try simp only [Act.put, List.setIfInBounds_toArray, List.set_cons_zero, List.set_cons_succ]
            refine wpAnyH_take (i := 13) (oi := { dst := some 26, op := Go.Op.fieldAddr 36 (Go.Operand.tmp 25) 0, type := 0, pos := "l08_labels.go:14", after := #[{ on := 12, ground := Go.Ground.data }, { on := 6, ground := Go.Ground.guard }], guard := some (6, false) }) (v := ?vab13) rfl (by kernel_rfl) (by kernel_rfl) (by kernel_rfl) (fun _ _ _ h => h) (Or.inl ⟨by rfl, ?hab13⟩) hHeld ?rab13
            case hab13 => (intro w hSw; (try dsimp only at hSw); go_simp; try with_reducible rfl)
            try simp only [Act.put, List.setIfInBounds_toArray, List.set_cons_zero, List.set_cons_succ]
            refine wpAnyH_take (i := 14) (oi := { dst := some 27, op := Go.Op.load 2 (Go.Operand.tmp 26), type := 2, pos := "l08_labels.go:14", after := #[{ on := 13, ground := Go.Ground.data }, { on := 6, ground := Go.Ground.guard }], guard := some (6, false) }) (v := ?vab14) rfl (by kernel_rfl) (by kernel_rfl) (by kernel_rfl) (fun _ _ _ h => h) (Or.inl ⟨by rfl, ?hab14⟩) hHeld ?rab14
            case hab14 => (intro w hSw; (try dsimp only at hSw); go_simp; try with_reducible rfl)
            try simp only [Act.put, List.setIfInBounds_toArray, List.set_cons_zero, List.set_cons_succ]
            refine wpAnyH_ready (rs := [15]) (by kernel_rfl) (by simp) ?_
            refine AllReadyH.cons (o := { dst := some 28, op := Go.Op.call { callee := Go.Callee.value (Go.Operand.func 86), args := #[Go.Operand.tmp 22, Go.Operand.tmp 27], argTypes := #[25, 2] }, type := 3, pos := "l08_labels.go:14", after := #[{ on := 9, ground := Go.Ground.data }, { on := 14, ground := Go.Ground.data }, { on := 6, ground := Go.Ground.chain }, { on := 6, ground := Go.Ground.guard }], guard := some (6, false) }) rfl (fun K hK => ?_) AllReadyH.nil
            go_simp
            refine (cF _ hHeld).mono ?_
            rintro e w2 ⟨kk, rfl, hkk, rfl⟩
            go_wp2_with fail
            refine hK.out _ _ ((by first | exact bel_step hHeld hbk | exact hHeld)) (fun hHeld' => ?_)
            clear hK K hHeld
            have hHeld := hHeld'
            clear hHeld'
            try simp only [Act.put, List.setIfInBounds_toArray, List.set_cons_zero, List.set_cons_succ]
            refine wpAnyH_take (i := 16) (oi := { dst := some 29, op := Go.Op.binOp Go.BinOp.geq 3 (Go.Operand.tmp 28) (Go.Operand.const (Go.Value.int Go.IntKind.i64 0)) 3, type := 4, pos := "l08_labels.go:14", after := #[{ on := 15, ground := Go.Ground.data }, { on := 6, ground := Go.Ground.guard }], guard := some (6, false) }) (v := ?vab16) rfl (by kernel_rfl) (by kernel_rfl) (by kernel_rfl) (fun _ _ _ h => h) (Or.inl ⟨by rfl, ?hab16⟩) hHeld ?rab16
            case hab16 => (intro w hSw; (try dsimp only at hSw); go_simp; try with_reducible rfl)
            try simp only [Act.put, List.setIfInBounds_toArray, List.set_cons_zero, List.set_cons_succ]
            refine wpAnyH_take (i := 17) (oi := { dst := some 30, op := Go.Op.pick (Go.Operand.tmp 19) (Go.Operand.const (Go.Value.bool true)) (Go.Operand.tmp 29), type := 4, pos := "l08_labels.go:14", after := #[{ on := 6, ground := Go.Ground.data }, { on := 16, ground := Go.Ground.data }], guard := none }) (v := ?vab17) rfl (by kernel_rfl) (by kernel_rfl) (by kernel_rfl) (fun _ _ _ h => h) (Or.inl ⟨by rfl, ?hab17⟩) hHeld ?rab17
            case hab17 => (intro w hSw; (try dsimp only at hSw); go_simp; try with_reducible rfl)
            try simp only [Act.put, List.setIfInBounds_toArray, List.set_cons_zero, List.set_cons_succ]
            refine wpAnyH_done (by kernel_rfl) ?_ _
            refine NoPanic.normal ?_
            go_wp2
            go_ret
            exact ⟨ret_bl HF.out, bel_step hbel hHeld⟩
          · have HA : Hid (lblK l[k] = true ∧ ∀ j (hj : j < k), (l[j]'(by omega)).id ≠ l[k].id) := ⟨by rw [← Hd.out]; exact hf, fun j hj e => bP_not hp ⟨j, by omega, hj, by rw [Hd.out]; exact e⟩⟩
            have cF := fun (W : World) (h : Bel wr W) => l8Find_any (some ⟨b, off, none⟩) k c (l.take k) cs d.id false W (hTk.bel lblE h) (by simp; omega) (by omega) (by rw [hfn, hp])
            clear c0 c1 c2 c3 c4 c5 hfn hTk hTr
            go_wp2
            refine wp_region_noPanic ?_
            refine wp_region_held_drew (S := fun w' => Bel wr w') (by kernel_rfl) (Bel.drew g0) (fun hHeld => ?_)
            refine wpAnyH_take (i := 0) (oi := { dst := some 13, op := Go.Op.move (Go.Operand.tmp 0), type := 25, pos := "l08_labels.go:14", after := #[], guard := none }) (v := ?vac0) rfl (by kernel_rfl) (by kernel_rfl) (by kernel_rfl) (fun _ _ _ h => h) (Or.inl ⟨by rfl, ?hac0⟩) hHeld ?rac0
            case hac0 => (intro w hSw; (try dsimp only at hSw); go_simp; try with_reducible rfl)
            try simp only [Act.put, List.setIfInBounds_toArray, List.set_cons_zero, List.set_cons_succ]
            refine wpAnyH_take (i := 1) (oi := { dst := some 14, op := Go.Op.move (Go.Operand.tmp 3), type := 3, pos := "l08_labels.go:14", after := #[], guard := none }) (v := ?vac1) rfl (by kernel_rfl) (by kernel_rfl) (by kernel_rfl) (fun _ _ _ h => h) (Or.inl ⟨by rfl, ?hac1⟩) hHeld ?rac1
            case hac1 => (intro w hSw; (try dsimp only at hSw); go_simp; try with_reducible rfl)
            try simp only [Act.put, List.setIfInBounds_toArray, List.set_cons_zero, List.set_cons_succ]
            refine wpAnyH_take (i := 2) (oi := { dst := some 15, op := Go.Op.indexAddr 25 (Go.Operand.tmp 13) (Go.Operand.tmp 14), type := 0, pos := "l08_labels.go:14", after := #[{ on := 0, ground := Go.Ground.data }, { on := 1, ground := Go.Ground.data }], guard := none }) (v := ?vac2) rfl (by kernel_rfl) (by kernel_rfl) (by kernel_rfl) (fun _ _ _ h => h) (Or.inl ⟨by rfl, ?hac2⟩) hHeld ?rac2
            case hac2 => (intro w hSw; (try dsimp only at hSw); go_simp; try with_reducible rfl)
            try simp only [Act.put, List.setIfInBounds_toArray, List.set_cons_zero, List.set_cons_succ]
            refine wpAnyH_take (i := 3) (oi := { dst := some 16, op := Go.Op.load 36 (Go.Operand.tmp 15), type := 36, pos := "l08_labels.go:14", after := #[{ on := 2, ground := Go.Ground.data }], guard := none }) (v := ?vac3) rfl (by kernel_rfl) (by kernel_rfl) (by kernel_rfl) (fun _ _ _ h => h) (Or.inl ⟨by rfl, ?hac3⟩) hHeld ?rac3
            case hac3 => (intro w hSw; (try dsimp only at hSw); go_simp; try with_reducible rfl)
            try simp only [Act.put, List.setIfInBounds_toArray, List.set_cons_zero, List.set_cons_succ]
            refine wpAnyH_ready (rs := [4]) (by kernel_rfl) (by simp) ?_
            refine AllReadyH.cons (o := { dst := some 17, op := Go.Op.call { callee := Go.Callee.value (Go.Operand.func 85), args := #[Go.Operand.tmp 16], argTypes := #[36] }, type := 4, pos := "l08_labels.go:14", after := #[{ on := 3, ground := Go.Ground.data }], guard := none }) rfl (fun K hK => ?_) AllReadyH.nil
            go_simp
            refine (l8Ok_r d true _ hf).mono ?_
            rintro e w1 ⟨rfl, hbk⟩
            go_wp2_with fail
            refine hK.out _ _ ((by first | exact bel_step hHeld hbk | exact hHeld)) (fun hHeld' => ?_)
            clear hK K hHeld
            have hHeld := hHeld'
            clear hHeld'
            try simp only [Act.put, List.setIfInBounds_toArray, List.set_cons_zero, List.set_cons_succ]
            refine wpAnyH_take (i := 5) (oi := { dst := some 18, op := Go.Op.unOp Go.UnOp.not 4 (Go.Operand.tmp 17), type := 4, pos := "l08_labels.go:14", after := #[{ on := 4, ground := Go.Ground.data }], guard := none }) (v := ?vac5) rfl (by kernel_rfl) (by kernel_rfl) (by kernel_rfl) (fun _ _ _ h => h) (Or.inl ⟨by rfl, ?hac5⟩) hHeld ?rac5
            case hac5 => (intro w hSw; (try dsimp only at hSw); go_simp; try with_reducible rfl)
            try simp only [Act.put, List.setIfInBounds_toArray, List.set_cons_zero, List.set_cons_succ]
            refine wpAnyH_take (i := 6) (oi := { dst := some 19, op := Go.Op.move (Go.Operand.tmp 18), type := 4, pos := "l08_labels.go:14", after := #[{ on := 5, ground := Go.Ground.data }, { on := 4, ground := Go.Ground.chain }], guard := none }) (v := ?vac6) rfl (by kernel_rfl) (by kernel_rfl) (by kernel_rfl) (fun _ _ _ h => h) (Or.inl ⟨by rfl, ?hac6⟩) hHeld ?rac6
            case hac6 => (intro w hSw; (try dsimp only at hSw); go_simp; try with_reducible rfl)
            try simp only [Act.put, List.setIfInBounds_toArray, List.set_cons_zero, List.set_cons_succ]
            refine wpAnyH_take (i := 7) (oi := { dst := some 20, op := Go.Op.move (Go.Operand.tmp 0), type := 25, pos := "l08_labels.go:14", after := #[{ on := 6, ground := Go.Ground.guard }], guard := some (6, false) }) (v := ?vac7) rfl (by kernel_rfl) (by kernel_rfl) (by kernel_rfl) (fun _ _ _ h => h) (Or.inl ⟨by rfl, ?hac7⟩) hHeld ?rac7
            case hac7 => (intro w hSw; (try dsimp only at hSw); go_simp; try with_reducible rfl)
            try simp only [Act.put, List.setIfInBounds_toArray, List.set_cons_zero, List.set_cons_succ]
            refine wpAnyH_take (i := 8) (oi := { dst := some 21, op := Go.Op.move (Go.Operand.tmp 3), type := 3, pos := "l08_labels.go:14", after := #[{ on := 6, ground := Go.Ground.guard }], guard := some (6, false) }) (v := ?vac8) rfl (by kernel_rfl) (by kernel_rfl) (by kernel_rfl) (fun _ _ _ h => h) (Or.inl ⟨by rfl, ?hac8⟩) hHeld ?rac8
            case hac8 => (intro w hSw; (try dsimp only at hSw); go_simp; try with_reducible rfl)
            try simp only [Act.put, List.setIfInBounds_toArray, List.set_cons_zero, List.set_cons_succ]
            refine wpAnyH_take (i := 9) (oi := { dst := some 22, op := Go.Op.slice 25 (Go.Operand.tmp 20) none (some (Go.Operand.tmp 21)) none, type := 25, pos := "l08_labels.go:14", after := #[{ on := 7, ground := Go.Ground.data }, { on := 8, ground := Go.Ground.data }, { on := 6, ground := Go.Ground.guard }], guard := some (6, false) }) (v := ?vac9) rfl (by kernel_rfl) (by kernel_rfl) (by kernel_rfl) (fun _ _ _ h => h) (Or.inl ⟨by rfl, ?hac9⟩) hHeld ?rac9
            case hac9 => (intro w hSw; (try dsimp only at hSw); go_simp; try with_reducible rfl)
            try simp only [Act.put, List.setIfInBounds_toArray, List.set_cons_zero, List.set_cons_succ]
            refine wpAnyH_take (i := 10) (oi := { dst := some 23, op := Go.Op.move (Go.Operand.tmp 0), type := 25, pos := "l08_labels.go:14", after := #[{ on := 6, ground := Go.Ground.guard }], guard := some (6, false) }) (v := ?vac10) rfl (by kernel_rfl) (by kernel_rfl) (by kernel_rfl) (fun _ _ _ h => h) (Or.inl ⟨by rfl, ?hac10⟩) hHeld ?rac10
            case hac10 => (intro w hSw; (try dsimp only at hSw); go_simp; try with_reducible rfl)
            try simp only [Act.put, List.setIfInBounds_toArray, List.set_cons_zero, List.set_cons_succ]
            refine wpAnyH_take (i := 11) (oi := { dst := some 24, op := Go.Op.move (Go.Operand.tmp 3), type := 3, pos := "l08_labels.go:14", after := #[{ on := 6, ground := Go.Ground.guard }], guard := some (6, false) }) (v := ?vac11) rfl (by kernel_rfl) (by kernel_rfl) (by kernel_rfl) (fun _ _ _ h => h) (Or.inl ⟨by rfl, ?hac11⟩) hHeld ?rac11
            case hac11 => (intro w hSw; (try dsimp only at hSw); go_simp; try with_reducible rfl)
            try simp only [Act.put, List.setIfInBounds_toArray, List.set_cons_zero, List.set_cons_succ]
            refine wpAnyH_take (i := 12) (oi := { dst := some 25, op := Go.Op.indexAddr 25 (Go.Operand.tmp 23) (Go.Operand.tmp 24), type := 0, pos := "l08_labels.go:14", after := #[{ on := 10, ground := Go.Ground.data }, { on := 11, ground := Go.Ground.data }, { on := 6, ground := Go.Ground.guard }], guard := some (6, false) }) (v := ?vac12) rfl (by kernel_rfl) (by kernel_rfl) (by kernel_rfl) (fun _ _ _ h => h) (Or.inl ⟨by rfl, ?hac12⟩) hHeld ?rac12
            case hac12 => (intro w hSw; (try dsimp only at hSw); go_simp; try with_reducible rfl)
            try simp only [Act.put, List.setIfInBounds_toArray, List.set_cons_zero, List.set_cons_succ]
            refine wpAnyH_take (i := 13) (oi := { dst := some 26, op := Go.Op.fieldAddr 36 (Go.Operand.tmp 25) 0, type := 0, pos := "l08_labels.go:14", after := #[{ on := 12, ground := Go.Ground.data }, { on := 6, ground := Go.Ground.guard }], guard := some (6, false) }) (v := ?vac13) rfl (by kernel_rfl) (by kernel_rfl) (by kernel_rfl) (fun _ _ _ h => h) (Or.inl ⟨by rfl, ?hac13⟩) hHeld ?rac13
            case hac13 => (intro w hSw; (try dsimp only at hSw); go_simp; try with_reducible rfl)
            try simp only [Act.put, List.setIfInBounds_toArray, List.set_cons_zero, List.set_cons_succ]
            refine wpAnyH_take (i := 14) (oi := { dst := some 27, op := Go.Op.load 2 (Go.Operand.tmp 26), type := 2, pos := "l08_labels.go:14", after := #[{ on := 13, ground := Go.Ground.data }, { on := 6, ground := Go.Ground.guard }], guard := some (6, false) }) (v := ?vac14) rfl (by kernel_rfl) (by kernel_rfl) (by kernel_rfl) (fun _ _ _ h => h) (Or.inl ⟨by rfl, ?hac14⟩) hHeld ?rac14
            case hac14 => (intro w hSw; (try dsimp only at hSw); go_simp; try with_reducible rfl)
            try simp only [Act.put, List.setIfInBounds_toArray, List.set_cons_zero, List.set_cons_succ]
            refine wpAnyH_ready (rs := [15]) (by kernel_rfl) (by simp) ?_
            refine AllReadyH.cons (o := { dst := some 28, op := Go.Op.call { callee := Go.Callee.value (Go.Operand.func 86), args := #[Go.Operand.tmp 22, Go.Operand.tmp 27], argTypes := #[25, 2] }, type := 3, pos := "l08_labels.go:14", after := #[{ on := 9, ground := Go.Ground.data }, { on := 14, ground := Go.Ground.data }, { on := 6, ground := Go.Ground.chain }, { on := 6, ground := Go.Ground.guard }], guard := some (6, false) }) rfl (fun K hK => ?_) AllReadyH.nil
            go_simp
            refine (cF _ hHeld).mono ?_
            rintro e w2 ⟨kk, rfl, hkk, rfl⟩
            go_wp2_with fail
            refine hK.out _ _ ((by first | exact bel_step hHeld hbk | exact hHeld)) (fun hHeld' => ?_)
            clear hK K hHeld
            have hHeld := hHeld'
            clear hHeld'
            try simp only [Act.put, List.setIfInBounds_toArray, List.set_cons_zero, List.set_cons_succ]
            refine wpAnyH_take (i := 16) (oi := { dst := some 29, op := Go.Op.binOp Go.BinOp.geq 3 (Go.Operand.tmp 28) (Go.Operand.const (Go.Value.int Go.IntKind.i64 0)) 3, type := 4, pos := "l08_labels.go:14", after := #[{ on := 15, ground := Go.Ground.data }, { on := 6, ground := Go.Ground.guard }], guard := some (6, false) }) (v := ?vac16) rfl (by kernel_rfl) (by kernel_rfl) (by kernel_rfl) (fun _ _ _ h => h) (Or.inl ⟨by rfl, ?hac16⟩) hHeld ?rac16
            case hac16 => (intro w hSw; (try dsimp only at hSw); go_simp; try with_reducible rfl)
            try simp only [Act.put, List.setIfInBounds_toArray, List.set_cons_zero, List.set_cons_succ]
            refine wpAnyH_take (i := 17) (oi := { dst := some 30, op := Go.Op.pick (Go.Operand.tmp 19) (Go.Operand.const (Go.Value.bool true)) (Go.Operand.tmp 29), type := 4, pos := "l08_labels.go:14", after := #[{ on := 6, ground := Go.Ground.data }, { on := 16, ground := Go.Ground.data }], guard := none }) (v := ?vac17) rfl (by kernel_rfl) (by kernel_rfl) (by kernel_rfl) (fun _ _ _ h => h) (Or.inl ⟨by rfl, ?hac17⟩) hHeld ?rac17
            case hac17 => (intro w hSw; (try dsimp only at hSw); go_simp; try with_reducible rfl)
            try simp only [Act.put, List.setIfInBounds_toArray, List.set_cons_zero, List.set_cons_succ]
            refine wpAnyH_done (by kernel_rfl) ?_ _
            refine NoPanic.normal ?_
            have hB1 := bel_step hbel hHeld
            go_wp2
            go_roundw
            case rel => exact ⟨k + 1, by omega, by go_num, fun j h hj => by
                            (by_cases e : j = k)
                            · subst e; exact HA.out
                            · exact H.out j h (by omega), hB1⟩
            case measure => simp [intOf]; omega
        · have HF : Hid (false = bP (lblsP l)) := (lblsP_no hkl (by rw [← Hd.out]; exact hf)).symm
          clear c0 c1 c2 c3 c4 c5 hTk hTr
          go_wp2
          refine wp_region_noPanic ?_
          refine wp_region_held_drew (S := fun w' => Bel wr w') (by kernel_rfl) (Bel.drew g0) (fun hHeld => ?_)
          refine wpAnyH_take (i := 0) (oi := { dst := some 13, op := Go.Op.move (Go.Operand.tmp 0), type := 25, pos := "l08_labels.go:14", after := #[], guard := none }) (v := ?vad0) rfl (by kernel_rfl) (by kernel_rfl) (by kernel_rfl) (fun _ _ _ h => h) (Or.inl ⟨by rfl, ?had0⟩) hHeld ?rad0
          case had0 => (intro w hSw; (try dsimp only at hSw); go_simp; try with_reducible rfl)
          try simp only [Act.put, List.setIfInBounds_toArray, List.set_cons_zero, List.set_cons_succ]
          refine wpAnyH_take (i := 1) (oi := { dst := some 14, op := Go.Op.move (Go.Operand.tmp 3), type := 3, pos := "l08_labels.go:14", after := #[], guard := none }) (v := ?vad1) rfl (by kernel_rfl) (by kernel_rfl) (by kernel_rfl) (fun _ _ _ h => h) (Or.inl ⟨by rfl, ?had1⟩) hHeld ?rad1
          case had1 => (intro w hSw; (try dsimp only at hSw); go_simp; try with_reducible rfl)
          try simp only [Act.put, List.setIfInBounds_toArray, List.set_cons_zero, List.set_cons_succ]
          refine wpAnyH_take (i := 2) (oi := { dst := some 15, op := Go.Op.indexAddr 25 (Go.Operand.tmp 13) (Go.Operand.tmp 14), type := 0, pos := "l08_labels.go:14", after := #[{ on := 0, ground := Go.Ground.data }, { on := 1, ground := Go.Ground.data }], guard := none }) (v := ?vad2) rfl (by kernel_rfl) (by kernel_rfl) (by kernel_rfl) (fun _ _ _ h => h) (Or.inl ⟨by rfl, ?had2⟩) hHeld ?rad2
          case had2 => (intro w hSw; (try dsimp only at hSw); go_simp; try with_reducible rfl)
          try simp only [Act.put, List.setIfInBounds_toArray, List.set_cons_zero, List.set_cons_succ]
          refine wpAnyH_take (i := 3) (oi := { dst := some 16, op := Go.Op.load 36 (Go.Operand.tmp 15), type := 36, pos := "l08_labels.go:14", after := #[{ on := 2, ground := Go.Ground.data }], guard := none }) (v := ?vad3) rfl (by kernel_rfl) (by kernel_rfl) (by kernel_rfl) (fun _ _ _ h => h) (Or.inl ⟨by rfl, ?had3⟩) hHeld ?rad3
          case had3 => (intro w hSw; (try dsimp only at hSw); go_simp; try with_reducible rfl)
          try simp only [Act.put, List.setIfInBounds_toArray, List.set_cons_zero, List.set_cons_succ]
          refine wpAnyH_ready (rs := [4]) (by kernel_rfl) (by simp) ?_
          refine AllReadyH.cons (o := { dst := some 17, op := Go.Op.call { callee := Go.Callee.value (Go.Operand.func 85), args := #[Go.Operand.tmp 16], argTypes := #[36] }, type := 4, pos := "l08_labels.go:14", after := #[{ on := 3, ground := Go.Ground.data }], guard := none }) rfl (fun K hK => ?_) AllReadyH.nil
          go_simp
          refine (l8Ok_r d false _ hf).mono ?_
          rintro e w1 ⟨rfl, hbk⟩
          go_wp2_with fail
          refine hK.out _ _ (bel_step hHeld hbk) (fun hHeld' => ?_)
          clear hK K hHeld
          have hHeld := hHeld'
          clear hHeld'
          try simp only [Act.put, List.setIfInBounds_toArray, List.set_cons_zero, List.set_cons_succ]
          refine wpAnyH_take (i := 5) (oi := { dst := some 18, op := Go.Op.unOp Go.UnOp.not 4 (Go.Operand.tmp 17), type := 4, pos := "l08_labels.go:14", after := #[{ on := 4, ground := Go.Ground.data }], guard := none }) (v := ?vad5) rfl (by kernel_rfl) (by kernel_rfl) (by kernel_rfl) (fun _ _ _ h => h) (Or.inl ⟨by rfl, ?had5⟩) hHeld ?rad5
          case had5 => (intro w hSw; (try dsimp only at hSw); go_simp; try with_reducible rfl)
          try simp only [Act.put, List.setIfInBounds_toArray, List.set_cons_zero, List.set_cons_succ]
          refine wpAnyH_take (i := 6) (oi := { dst := some 19, op := Go.Op.move (Go.Operand.tmp 18), type := 4, pos := "l08_labels.go:14", after := #[{ on := 5, ground := Go.Ground.data }, { on := 4, ground := Go.Ground.chain }], guard := none }) (v := ?vad6) rfl (by kernel_rfl) (by kernel_rfl) (by kernel_rfl) (fun _ _ _ h => h) (Or.inl ⟨by rfl, ?had6⟩) hHeld ?rad6
          case had6 => (intro w hSw; (try dsimp only at hSw); go_simp; try with_reducible rfl)
          try simp only [Act.put, List.setIfInBounds_toArray, List.set_cons_zero, List.set_cons_succ]
          refine wpAnyH_take (i := 7) (oi := { dst := some 20, op := Go.Op.move (Go.Operand.tmp 0), type := 25, pos := "l08_labels.go:14", after := #[{ on := 6, ground := Go.Ground.guard }], guard := some (6, false) }) (v := undef) rfl (by kernel_rfl) (by kernel_rfl) (by kernel_rfl) (fun _ _ _ h => h) (Or.inr ⟨by rfl, rfl⟩) hHeld ?_
          try simp only [Act.put, List.setIfInBounds_toArray, List.set_cons_zero, List.set_cons_succ]
          refine wpAnyH_take (i := 8) (oi := { dst := some 21, op := Go.Op.move (Go.Operand.tmp 3), type := 3, pos := "l08_labels.go:14", after := #[{ on := 6, ground := Go.Ground.guard }], guard := some (6, false) }) (v := undef) rfl (by kernel_rfl) (by kernel_rfl) (by kernel_rfl) (fun _ _ _ h => h) (Or.inr ⟨by rfl, rfl⟩) hHeld ?_
          try simp only [Act.put, List.setIfInBounds_toArray, List.set_cons_zero, List.set_cons_succ]
          refine wpAnyH_take (i := 9) (oi := { dst := some 22, op := Go.Op.slice 25 (Go.Operand.tmp 20) none (some (Go.Operand.tmp 21)) none, type := 25, pos := "l08_labels.go:14", after := #[{ on := 7, ground := Go.Ground.data }, { on := 8, ground := Go.Ground.data }, { on := 6, ground := Go.Ground.guard }], guard := some (6, false) }) (v := undef) rfl (by kernel_rfl) (by kernel_rfl) (by kernel_rfl) (fun _ _ _ h => h) (Or.inr ⟨by rfl, rfl⟩) hHeld ?_
          try simp only [Act.put, List.setIfInBounds_toArray, List.set_cons_zero, List.set_cons_succ]
          refine wpAnyH_take (i := 10) (oi := { dst := some 23, op := Go.Op.move (Go.Operand.tmp 0), type := 25, pos := "l08_labels.go:14", after := #[{ on := 6, ground := Go.Ground.guard }], guard := some (6, false) }) (v := undef) rfl (by kernel_rfl) (by kernel_rfl) (by kernel_rfl) (fun _ _ _ h => h) (Or.inr ⟨by rfl, rfl⟩) hHeld ?_
          try simp only [Act.put, List.setIfInBounds_toArray, List.set_cons_zero, List.set_cons_succ]
          refine wpAnyH_take (i := 11) (oi := { dst := some 24, op := Go.Op.move (Go.Operand.tmp 3), type := 3, pos := "l08_labels.go:14", after := #[{ on := 6, ground := Go.Ground.guard }], guard := some (6, false) }) (v := undef) rfl (by kernel_rfl) (by kernel_rfl) (by kernel_rfl) (fun _ _ _ h => h) (Or.inr ⟨by rfl, rfl⟩) hHeld ?_
          try simp only [Act.put, List.setIfInBounds_toArray, List.set_cons_zero, List.set_cons_succ]
          refine wpAnyH_take (i := 12) (oi := { dst := some 25, op := Go.Op.indexAddr 25 (Go.Operand.tmp 23) (Go.Operand.tmp 24), type := 0, pos := "l08_labels.go:14", after := #[{ on := 10, ground := Go.Ground.data }, { on := 11, ground := Go.Ground.data }, { on := 6, ground := Go.Ground.guard }], guard := some (6, false) }) (v := undef) rfl (by kernel_rfl) (by kernel_rfl) (by kernel_rfl) (fun _ _ _ h => h) (Or.inr ⟨by rfl, rfl⟩) hHeld ?_
          try simp only [Act.put, List.setIfInBounds_toArray, List.set_cons_zero, List.set_cons_succ]
          refine wpAnyH_take (i := 13) (oi := { dst := some 26, op := Go.Op.fieldAddr 36 (Go.Operand.tmp 25) 0, type := 0, pos := "l08_labels.go:14", after := #[{ on := 12, ground := Go.Ground.data }, { on := 6, ground := Go.Ground.guard }], guard := some (6, false) }) (v := undef) rfl (by kernel_rfl) (by kernel_rfl) (by kernel_rfl) (fun _ _ _ h => h) (Or.inr ⟨by rfl, rfl⟩) hHeld ?_
          try simp only [Act.put, List.setIfInBounds_toArray, List.set_cons_zero, List.set_cons_succ]
          refine wpAnyH_take (i := 14) (oi := { dst := some 27, op := Go.Op.load 2 (Go.Operand.tmp 26), type := 2, pos := "l08_labels.go:14", after := #[{ on := 13, ground := Go.Ground.data }, { on := 6, ground := Go.Ground.guard }], guard := some (6, false) }) (v := undef) rfl (by kernel_rfl) (by kernel_rfl) (by kernel_rfl) (fun _ _ _ h => h) (Or.inr ⟨by rfl, rfl⟩) hHeld ?_
          try simp only [Act.put, List.setIfInBounds_toArray, List.set_cons_zero, List.set_cons_succ]
          refine wpAnyH_take (i := 15) (oi := { dst := some 28, op := Go.Op.call { callee := Go.Callee.value (Go.Operand.func 86), args := #[Go.Operand.tmp 22, Go.Operand.tmp 27], argTypes := #[25, 2] }, type := 3, pos := "l08_labels.go:14", after := #[{ on := 9, ground := Go.Ground.data }, { on := 14, ground := Go.Ground.data }, { on := 6, ground := Go.Ground.chain }, { on := 6, ground := Go.Ground.guard }], guard := some (6, false) }) (v := undef) rfl (by kernel_rfl) (by kernel_rfl) (by kernel_rfl) (fun _ _ _ h => h) (Or.inr ⟨by rfl, rfl⟩) hHeld ?_
          try simp only [Act.put, List.setIfInBounds_toArray, List.set_cons_zero, List.set_cons_succ]
          refine wpAnyH_take (i := 16) (oi := { dst := some 29, op := Go.Op.binOp Go.BinOp.geq 3 (Go.Operand.tmp 28) (Go.Operand.const (Go.Value.int Go.IntKind.i64 0)) 3, type := 4, pos := "l08_labels.go:14", after := #[{ on := 15, ground := Go.Ground.data }, { on := 6, ground := Go.Ground.guard }], guard := some (6, false) }) (v := undef) rfl (by kernel_rfl) (by kernel_rfl) (by kernel_rfl) (fun _ _ _ h => h) (Or.inr ⟨by rfl, rfl⟩) hHeld ?_
          try simp only [Act.put, List.setIfInBounds_toArray, List.set_cons_zero, List.set_cons_succ]
          refine wpAnyH_take (i := 17) (oi := { dst := some 30, op := Go.Op.pick (Go.Operand.tmp 19) (Go.Operand.const (Go.Value.bool true)) (Go.Operand.tmp 29), type := 4, pos := "l08_labels.go:14", after := #[{ on := 6, ground := Go.Ground.data }, { on := 16, ground := Go.Ground.data }], guard := none }) (v := ?vad17) rfl (by kernel_rfl) (by kernel_rfl) (by kernel_rfl) (fun _ _ _ h => h) (Or.inl ⟨by rfl, ?had17⟩) hHeld ?rad17
          case had17 => (intro w hSw; (try dsimp only at hSw); go_simp; try with_reducible rfl)
          try simp only [Act.put, List.setIfInBounds_toArray, List.set_cons_zero, List.set_cons_succ]
          refine wpAnyH_done (by kernel_rfl) ?_ _
          refine NoPanic.normal ?_
          go_wp2
          go_ret
          exact ⟨ret_bl HF.out, bel_step hbel hHeld⟩
      · have HT : Hid (true = bP (lblsP l)) := (bP_true ⟨by rw [Hn.out]; exact h5, fun i h => H.out i h (by rw [Hn.out] at h; omega)⟩).symm
        go_wp2
        go_ret
        exact ⟨ret_bl HT.out, hbel⟩
  · have HF : Hid (false = bP (lblsP l)) := (lblsP_many (by rw [Hn.out]; exact h5)).symm
    go_enter Try.func15, Try.ntmps15
    go_wp2
    go_ret
    exact ⟨ret_bl HF.out, Bel.refl _⟩
end Go.Proofs.Ytbebgfhblalghaa

