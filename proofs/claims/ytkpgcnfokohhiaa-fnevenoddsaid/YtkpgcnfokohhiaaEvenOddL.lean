/-
  The walk of the law: for every row of bytes FnEvenOdd says true.
-/
import Derived.Test.YtkpgcnfokohhiaaXA
import Derived.Test.YtkpgcnfokohhiaaXB
import Derived.Test.YtkpgcnfokohhiaaInsI
import Derived.Test.YtkpgcnfokohhiaaSmpL
namespace Go.Proofs.Ytkpgcnfokohhiaa
open Go.RowKit

/-- The law's own ring. -/
def litR : RingD := ⟨[⟨0, 0⟩, ⟨4, 0⟩, ⟨0, 4⟩, ⟨0, 0⟩], false⟩
theorem lit_ring (w : World) : RingL ((w.alloc (.cells #[.int .i64 0, .int .i64 0, .int .i64 4, .int .i64 0, .int .i64 0, .int .i64 4, .int .i64 0, .int .i64 0] 26)).alloc (.cells #[.slice (some ⟨w.heap.size, 0, none⟩) 4 4, .bool false] 32)) (some ⟨w.heap.size + 1, 0, none⟩) [litR] [w.heap.size + 1, w.heap.size] := by
  have XA : Blk ((w.alloc (.cells #[.int .i64 0, .int .i64 0, .int .i64 4, .int .i64 0, .int .i64 0, .int .i64 4, .int .i64 0, .int .i64 0] 26)).alloc (.cells #[.slice (some ⟨w.heap.size, 0, none⟩) 4 4, .bool false] 32)) w.heap.size [.int .i64 0, .int .i64 0, .int .i64 4, .int .i64 0, .int .i64 0, .int .i64 4, .int .i64 0, .int .i64 0] := (Blk.new w [.int .i64 0, .int .i64 0, .int .i64 4, .int .i64 0, .int .i64 0, .int .i64 4, .int .i64 0, .int .i64 0] _).bel (bel_alloc (Bel.refl _) _)
  have XB : Blk ((w.alloc (.cells #[.int .i64 0, .int .i64 0, .int .i64 4, .int .i64 0, .int .i64 0, .int .i64 4, .int .i64 0, .int .i64 0] 26)).alloc (.cells #[.slice (some ⟨w.heap.size, 0, none⟩) 4 4, .bool false] 32)) (w.heap.size + 1) [.slice (some ⟨w.heap.size, 0, none⟩) 4 4, .bool false] := Blk.new1 w _ [.slice (some ⟨w.heap.size, 0, none⟩) 4 4, .bool false] _
  refine .inr ⟨w.heap.size + 1, 0, fun _ => [w.heap.size], rfl, XB.lt, rfl, fun i hi => ?_⟩
  obtain rfl : i = 0 := by simp at hi; exact hi
  have z0 : In64 0 := ⟨by decide, by decide⟩
  have z4 : In64 4 := ⟨by decide, by decide⟩
  refine ⟨some ⟨w.heap.size, 0, none⟩, 4, (show 4 ≤ maxLen by unfold maxLen; omega), XB.cell 0 (by simp), XB.cell 1 (by simp), .inr ⟨w.heap.size, 0, fun _ => [], rfl, XA.lt, rfl, fun j hj => ?_⟩⟩
  have hj' : j < 4 := hj
  rcases (show j = 0 ∨ j = 1 ∨ j = 2 ∨ j = 3 by omega) with rfl | rfl | rfl | rfl
  · exact ⟨rfl, z0, z0, XA.cell 0 (by simp), XA.cell 1 (by simp)⟩
  · exact ⟨rfl, z4, z0, XA.cell 2 (by simp), XA.cell 3 (by simp)⟩
  · exact ⟨rfl, z0, z4, XA.cell 4 (by simp), XA.cell 5 (by simp)⟩
  · exact ⟨rfl, z0, z0, XA.cell 6 (by simp), XA.cell 7 (by simp)⟩
theorem lit_small : ∀ i (h : i < [litR].length), [litR][i].row.length ≤ 1048576 := fun i h => by
  have e : i = 0 := by simp at h; exact h
  subst e
  show 4 ≤ 1048576
  decide
theorem one_small {r : RingD} (hr : r.row.length ≤ 1048576) : ∀ i (h : i < [r].length), [r][i].row.length ≤ 1048576 := fun i h => by
  have e : i = 0 := by simp at h; exact h
  subst e
  exact hr
theorem rgs_single {r : RingD} (h : rwB r.row = true) : rgsB [r] = true := by simp [rgsB, h]
theorem lit_in : insOf [litR] 1 1 = 1 := ins_lit
theorem rwB_ok {l : List PtD} (h : okA l.length (lx l) (ly l) = true) (hl : l.length ≤ 2000) : rwB l = true := by
  unfold rwB rowB
  rw [decide_eq_true hl, Bool.true_and]
  exact h
theorem rwB_no {l : List PtD} (h : okA l.length (lx l) (ly l) = false) : rwB l = false := by
  unfold rwB rowB
  rw [Bool.and_eq_false_iff]
  exact .inr h
theorem rwB_long {l : List PtD} (h : ¬ l.length ≤ 2000) : rwB l = false := by
  unfold rwB rowB
  rw [Bool.and_eq_false_iff]
  exact .inl (by simpa using h)

set_option maxRecDepth 100000 in
set_option maxHeartbeats 4000000 in
theorem lawFnEvenOdd_any (a : Option Addr) (n0 c0 : Nat) (w : World) (hS : Bts w a n0) (_hm : n0 ≤ 9223372036854775807) :
    Calls Try.prog 3 #[.slice a n0 c0] w fun e w' => e = .returned (.bool true) ∧ Bel w w' := by
  by_cases hn0 : n0 ≤ 1048576
  rotate_left
  · have hbig : decide (1048576 < (n0 : Int)) = true := by simp; omega
    go_enter Try.func3, Try.ntmps3
    go_wp2_with fail
    refine (big_any a n0 c0 w).mono ?_
    rintro e w' ⟨rfl, rfl⟩
    rw [hbig]
    go_wp2
    go_ret
    exact ⟨rfl, Bel.refl _⟩
  have hbig : decide (1048576 < (n0 : Int)) = false := by simp; omega
  go_enter Try.func3, Try.ntmps3
  go_wp2_with fail
  refine (big_any a n0 c0 w).mono ?_
  rintro e w' ⟨rfl, hw⟩
  have hw := hw.symm
  subst hw
  rw [hbig]
  go_wp2_with fail
  refine (drawInside_any a n0 c0 w hS hn0).mono ?_
  rintro e w1 ⟨v, l, px, py, rfl, hl45, hG, hB1⟩
  obtain ⟨va, vc, bs, rfl, hcap, hR, _, hrow⟩ := hG.read
  obtain ⟨n, HLn⟩ : ∃ q, Hid (l.length = q) := ⟨_, (rfl : l.length = _)⟩
  rw [HLn.out] at hcap hl45 ⊢
  have HRow : Hid (∀ i (h : i < l.length), l[i].row.length ≤ 2001) := hrow
  obtain ⟨V, HV⟩ : ∃ V, Hid (V = w1.alloc (.cells #[.int .i64 px, .int .i64 py] 26)) := ⟨_, (rfl : w1.alloc (.cells #[.int .i64 px, .int .i64 py] 26) = _)⟩
  have hbV : Bel w1 V := by rw [HV.out]; exact bel_alloc (Bel.refl _) _
  have XP : Blk V w1.heap.size [.int .i64 px, .int .i64 py] := by rw [HV.out]; exact Blk.new w1 [.int .i64 px, .int .i64 py] _
  obtain ⟨U, HU⟩ : ∃ U, Hid (U = (V.alloc (.cells #[.int .i64 0, .int .i64 0, .int .i64 4, .int .i64 0, .int .i64 0, .int .i64 4, .int .i64 0, .int .i64 0] 26)).alloc (.cells #[.slice (some ⟨V.heap.size, 0, none⟩) 4 4, .bool false] 32)) := ⟨_, (rfl : (V.alloc (.cells #[.int .i64 0, .int .i64 0, .int .i64 4, .int .i64 0, .int .i64 0, .int .i64 4, .int .i64 0, .int .i64 0] 26)).alloc (.cells #[.slice (some ⟨V.heap.size, 0, none⟩) 4 4, .bool false] 32) = _)⟩
  have hbU : Bel V U := by rw [HU.out]; exact bel_alloc (bel_alloc (Bel.refl _) _) _
  have hLit : RingL U (some ⟨V.heap.size + 1, 0, none⟩) [litR] [V.heap.size + 1, V.heap.size] := by rw [HU.out]; exact lit_ring V
  clear hG hrow
  go_upto_region 4 with fail
  rw [← HV.out]
  go_wp2_with fail
  rw [← HU.out]
  refine (inside_any _ 1 1 [litR] _ 1 1 _ hLit rfl (by decide) lit_small).mono ?_
  rintro e w2 ⟨rfl, hb2⟩
  rw [lit_in]
  have hB2 : Bel w1 w2 := bel_step hbV (bel_step hbU hb2)
  have XP2 := XP.bel (bel_step hbU hb2)
  have R2 := hR.bel ringE hB2
  obtain ⟨AL, HAL⟩ : ∃ q, Hid (insOf l px py = q) := ⟨_, (rfl : insOf l px py = _)⟩
  have p0 : w2.cell? ⟨w1.heap.size, 0, none⟩ = some (.int .i64 px) := XP2.cell 0 (by simp)
  have p1 : w2.cell? ⟨w1.heap.size, 1, none⟩ = some (.int .i64 py) := XP2.cell 1 (by simp)
  have pl := XP2.lt
  clear hLit XP hbU hb2
  go_wp2_with fail
  refine (inside_any _ n _ l bs px py _ R2 HLn.out (by omega) (fun i hi => Nat.le_trans (HRow.out i hi) (by decide))).mono ?_
  rintro e w3 ⟨rfl, hb3⟩
  rw [HAL.out]
  have hB3 := bel_step hB2 hb3
  have XP3 := XP2.bel hb3
  have R3 := R2.bel ringE hb3
  have HBw : Hid (Bel w w3) := bel_step hB1 hB3
  have s0 : w3.cell? ⟨w1.heap.size, 0, none⟩ = some (.int .i64 px) := XP3.cell 0 (by simp)
  have s1 : w3.cell? ⟨w1.heap.size, 1, none⟩ = some (.int .i64 py) := XP3.cell 1 (by simp)
  have sl := XP3.lt
  clear p0 p1 pl R2 XP2 hb3 hR
  by_cases h40 : (40 : Int) < (n : Int)
  · have h40b : decide ((40 : Int) < (n : Int)) = true := by simp only [h40, decide_true]
    have hAL : AL = -1 := by rw [← HAL.out]; exact insOf_bad (.inl (rgsB_big (by rw [HLn.out]; omega)))
    subst hAL
    go_wp2
    go_ret
    exact ⟨rfl, HBw.out⟩
  have h40b : decide ((40 : Int) < (n : Int)) = false := by simp only [h40, decide_false]
  rcases Bool.eq_false_or_eq_true (pok px py) with hpk | hpk
  rotate_left
  · have hAL : AL = -1 := by rw [← HAL.out]; exact insOf_bad (.inr hpk)
    subst hAL
    go_wp2_with fail
    refine (pointOk_any px py w3).mono ?_
    rintro e w4 ⟨rfl, hb4⟩
    rw [hpk]
    go_wp2
    go_ret
    exact ⟨rfl, bel_step HBw.out hb4⟩
  go_wp2_with fail
  refine (pointOk_any px py w3).mono ?_
  rintro e w4 ⟨rfl, hb4⟩
  rw [hpk]
  have HB4 : Hid (Bel w w4) := bel_step HBw.out hb4
  have HXP : Hid (Blk w4 w1.heap.size [.int .i64 px, .int .i64 py]) := XP3.bel hb4
  have HR4 : Hid (RingL w4 va l bs) := R3.bel ringE hb4
  clear s0 s1 sl XP3 R3 HBw hb4
  go_wp2
  go_loopw [6, 7, 8, 9] (fun od on ix _ wr => ∃ (i : Nat) (o : Int) (b : Bool), i ≤ n ∧ ix = .int .i64 i ∧ od = .int .i64 o ∧ on = .bool b ∧ Hid (OddP l px py i o) ∧ Hid (onR (l.take i) px py = b) ∧ Hid (∀ j (h : j < l.length), j < i → rwB l[j].row = true) ∧ Bel w4 wr) (fun _ _ ix _ _ => n - (intOf ix).toNat)
  case atStart => exact ⟨0, -1, false, Nat.zero_le _, rfl, rfl, rfl, OddP.zero _ _ _, rfl, fun j h hj => absurd hj (Nat.not_lt_zero _), Bel.refl _⟩
  case round =>
    obtain ⟨i, o, b, hi, rfl, rfl, rfl, HO, HN, HA, hBr⟩ := hrel
    have HBr : Hid (Bel w wr) := bel_step HB4.out hBr
    by_cases hlt : i < n
    · have hil : i < l.length := by rw [HLn.out]; exact hlt
      have hlt' : (i : Int) < (n : Int) := by omega
      obtain ⟨rb, off, f, rfl, hb, hx⟩ := (HR4.out.bel ringE hBr).out hil
      have HX : Hid (∀ i (h : i < l.length), RingE wr rb (off + i * 2) l[i] (f i)) := hx
      obtain ⟨a', c', hml, k0, k1, hp⟩ := hx i hil
      obtain ⟨d, Hd⟩ : ∃ d, Hid (l[i] = d) := ⟨_, (rfl : l[i] = _)⟩
      rw [Hd.out] at k0 k1 hp hml
      have hm1 : d.row.length ≤ 2001 := by rw [← Hd.out]; exact HRow.out i hil
      obtain ⟨m, Hm⟩ : ∃ q, Hid (d.row.length = q) := ⟨_, (rfl : d.row.length = _)⟩
      rw [Hm.out] at k0 hm1
      have hPts : Pts wr a' m (lx d.row) (ly d.row) := by have := Sl.pts hp; rw [Hm.out] at this; exact this
      clear hx
      go_wp2_with fail
      refine (allOk_any a' m c' _ _ wr hPts (by omega)).mono ?_
      rintro e w5 ⟨rfl, hb5⟩
      rcases Bool.eq_false_or_eq_true (okA m (lx d.row) (ly d.row)) with hok | hok
      rotate_left
      · have hAL : AL = -1 := by rw [← HAL.out]; exact insOf_bad (.inl (rgsB_at hil (by rw [Hd.out]; exact rwB_no (by rw [Hm.out]; exact hok))))
        subst hAL
        rw [hok]
        go_wp2
        go_ret
        exact ⟨rfl, bel_step HBr.out hb5⟩
      have k05 := bel_cellM hb5 hb k0
      have hb55 : rb < w5.heap.size := bel_lt hb5 hb
      rw [hok]
      by_cases h2k : (2000 : Int) < (m : Int)
      · have h2b : decide ((2000 : Int) < (m : Int)) = true := by simp only [h2k, decide_true]
        have hAL : AL = -1 := by rw [← HAL.out]; exact insOf_bad (.inl (rgsB_at hil (by rw [Hd.out]; exact rwB_long (by rw [Hm.out]; omega))))
        subst hAL
        go_wp2
        go_ret
        exact ⟨rfl, bel_step HBr.out hb5⟩
      have h2b : decide ((2000 : Int) < (m : Int)) = false := by simp only [h2k, decide_false]
      have HRW : Hid (rwB d.row = true) := rwB_ok (by rw [Hm.out]; exact hok) (by rw [Hm.out]; omega)
      have HG1 : Hid (rgsB [l[i]] = true) := rgs_single (by rw [Hd.out]; exact HRW.out)
      obtain ⟨z, Hz⟩ : ∃ z, Hid (insR [l[i]] px py = z) := ⟨_, (rfl : insR [l[i]] px py = _)⟩
      have HB5 : Hid (Bel w w5) := bel_step HBr.out hb5
      have hB45 := bel_step hBr hb5
      have g0 : Bel w5 w5 := Bel.refl _
      have hIn : ∀ w', Bel w5 w' → Calls Try.prog 7 #[.slice (some ⟨rb, off + i * 2, none⟩) 1 (vc - i), .agg #[.int .i64 px, .int .i64 py]] w' fun e w2 => e = .returned (.int .i64 z) ∧ Bel w' w2 := fun w' h => by
        refine (inside_any _ 1 (vc - i) [l[i]] _ px py w' ((Sl.one hb HX.out hil).bel ringE (bel_step hb5 h)) rfl (by decide) (one_small (by rw [Hd.out, Hm.out]; omega))).mono ?_
        rintro e w2 ⟨rfl, hb2⟩
        rw [insOf_ok HG1.out hpk, Hz.out]
        exact ⟨rfl, hb2⟩
      have hPP : ∀ w', Bel w5 w' → w'.cell? ⟨w1.heap.size, 0, none⟩ = some (.int .i64 px) ∧ w'.cell? ⟨w1.heap.size, 1, none⟩ = some (.int .i64 py) := fun w' h => ⟨(HXP.out.bel (bel_step hB45 h)).cell 0 (by simp), (HXP.out.bel (bel_step hB45 h)).cell 1 (by simp)⟩
      have hwj1 : IntKind.i64.wrap ((i : Int) + 1) = i + 1 := by rw [IntKind.wrap_i64]; omega
      have hj0 : (0 : Int) ≤ (i : Int) := by omega
      have hj1 : (0 : Int) ≤ (i : Int) + 1 := by omega
      have hjc : (i : Int) + 1 ≤ (vc : Int) := by omega
      have hjj : (i : Int) ≤ (i : Int) + 1 := by omega
      have htn : ((i : Int) + 1).toNat = i + 1 := by omega
      have hcj : ¬ vc = i := by omega
      go_upto_region 16 with fail
      refine wp_region_noPanic ?_
      refine wp_region_held_drew (S := fun w' => Bel w5 w') (by kernel_rfl) (Bel.drew g0) (fun hHeld => ?_)
      refine wpAnyH_take (i := 0) (oi := { dst := some 64, op := Go.Op.move (Go.Operand.tmp 3), type := 24, pos := "laws.go:374", after := #[], guard := none }) (v := ?vab0) rfl (by kernel_rfl) (by kernel_rfl) (by kernel_rfl) (fun _ _ _ h => h) (Or.inl ⟨by rfl, ?hab0⟩) hHeld ?rab0
      case hab0 => (intro w hSw; (try dsimp only at hSw); go_simp; try with_reducible rfl)
      try simp only [Act.put, List.setIfInBounds_toArray, List.set_cons_zero, List.set_cons_succ]
      refine wpAnyH_take (i := 1) (oi := { dst := some 65, op := Go.Op.move (Go.Operand.tmp 8), type := 3, pos := "laws.go:374", after := #[], guard := none }) (v := ?vab1) rfl (by kernel_rfl) (by kernel_rfl) (by kernel_rfl) (fun _ _ _ h => h) (Or.inl ⟨by rfl, ?hab1⟩) hHeld ?rab1
      case hab1 => (intro w hSw; (try dsimp only at hSw); go_simp; try with_reducible rfl)
      try simp only [Act.put, List.setIfInBounds_toArray, List.set_cons_zero, List.set_cons_succ]
      refine wpAnyH_take (i := 2) (oi := { dst := some 66, op := Go.Op.move (Go.Operand.tmp 8), type := 3, pos := "laws.go:374", after := #[], guard := none }) (v := ?vab2) rfl (by kernel_rfl) (by kernel_rfl) (by kernel_rfl) (fun _ _ _ h => h) (Or.inl ⟨by rfl, ?hab2⟩) hHeld ?rab2
      case hab2 => (intro w hSw; (try dsimp only at hSw); go_simp; try with_reducible rfl)
      try simp only [Act.put, List.setIfInBounds_toArray, List.set_cons_zero, List.set_cons_succ]
      refine wpAnyH_take (i := 3) (oi := { dst := some 67, op := Go.Op.binOp Go.BinOp.add 3 (Go.Operand.tmp 66) (Go.Operand.const (Go.Value.int Go.IntKind.i64 1)) 3, type := 3, pos := "laws.go:374", after := #[{ on := 2, ground := Go.Ground.data }], guard := none }) (v := ?vab3) rfl (by kernel_rfl) (by kernel_rfl) (by kernel_rfl) (fun _ _ _ h => h) (Or.inl ⟨by rfl, ?hab3⟩) hHeld ?rab3
      case hab3 => (intro w hSw; (try dsimp only at hSw); go_simp; try with_reducible rfl)
      try simp only [Act.put, List.setIfInBounds_toArray, List.set_cons_zero, List.set_cons_succ]
      refine wpAnyH_take (i := 4) (oi := { dst := some 68, op := Go.Op.slice 24 (Go.Operand.tmp 64) (some (Go.Operand.tmp 65)) (some (Go.Operand.tmp 67)) none, type := 24, pos := "laws.go:374", after := #[{ on := 0, ground := Go.Ground.data }, { on := 1, ground := Go.Ground.data }, { on := 3, ground := Go.Ground.data }], guard := none }) (v := ?vab4) rfl (by kernel_rfl) (by kernel_rfl) (by kernel_rfl) (fun _ _ _ h => h) (Or.inl ⟨by rfl, ?hab4⟩) hHeld ?rab4
      case hab4 => (intro w hSw; (try dsimp only at hSw); go_simp; try with_reducible rfl)
      try simp only [Act.put, List.setIfInBounds_toArray, List.set_cons_zero, List.set_cons_succ]
      refine wpAnyH_take (i := 5) (oi := { dst := some 69, op := Go.Op.load 26 (Go.Operand.tmp 4), type := 26, pos := "laws.go:374", after := #[], guard := none }) (v := ?vab5) rfl (by kernel_rfl) (by kernel_rfl) (by kernel_rfl) (fun _ _ _ h => h) (Or.inl ⟨by rfl, ?hab5⟩) hHeld ?rab5
      case hab5 => (intro w hSw; (try dsimp only at hSw); go_simp; try with_reducible rfl)
      try simp only [Act.put, List.setIfInBounds_toArray, List.set_cons_zero, List.set_cons_succ]
      refine wpAnyH_ready (rs := [6]) (by kernel_rfl) (by simp) ?_
      refine AllReadyH.cons (o := { dst := some 70, op := Go.Op.call { callee := Go.Callee.value (Go.Operand.func 7), args := #[Go.Operand.tmp 68, Go.Operand.tmp 69], argTypes := #[24, 26] }, type := 2, pos := "laws.go:374", after := #[{ on := 4, ground := Go.Ground.data }, { on := 5, ground := Go.Ground.data }], guard := none }) rfl (fun K hK => ?_) AllReadyH.nil
      go_simp
      refine (hIn _ hHeld).mono ?_
      rintro e w6 ⟨rfl, hb6⟩
      go_wp2_with fail
      refine hK.out _ _ (bel_step hHeld hb6) (fun hHeld' => ?_)
      clear hK K hHeld
      have hHeld := hHeld'
      clear hHeld'
      try simp only [Act.put, List.setIfInBounds_toArray, List.set_cons_zero, List.set_cons_succ]
      refine wpAnyH_take (i := 7) (oi := { dst := some 9, op := Go.Op.assign (Go.Operand.tmp 70), type := 2, pos := "laws.go:374", after := #[{ on := 6, ground := Go.Ground.data }, { on := 6, ground := Go.Ground.chain }, { on := 0, ground := Go.Ground.phase }, { on := 1, ground := Go.Ground.phase }, { on := 2, ground := Go.Ground.phase }, { on := 3, ground := Go.Ground.phase }, { on := 4, ground := Go.Ground.phase }, { on := 5, ground := Go.Ground.phase }, { on := 6, ground := Go.Ground.phase }], guard := none }) (v := ?vab7) rfl (by kernel_rfl) (by kernel_rfl) (by kernel_rfl) (fun _ _ _ h => h) (Or.inl ⟨by rfl, ?hab7⟩) hHeld ?rab7
      case hab7 => (intro w hSw; (try dsimp only at hSw); go_simp; try with_reducible rfl)
      try simp only [Act.put, List.setIfInBounds_toArray, List.set_cons_zero, List.set_cons_succ]
      refine wpAnyH_done (by kernel_rfl) ?_ _
      refine NoPanic.normal ?_
      have hB6 := bel_step hB45 hHeld
      have HB6 : Hid (Bel w w6) := bel_step HB5.out hHeld
      have k06 := bel_cellM hHeld hb55 k05
      have hb66 : rb < w6.heap.size := bel_lt hHeld hb55
      have hp6 : PtL w6 a' d.row (f i) := (hp.bel ptE hb5).bel ptE hHeld
      obtain ⟨C, HC⟩ : ∃ q, Hid (clB d.row = q) := ⟨_, (rfl : clB d.row = _)⟩
      have HA' : Hid (∀ j (h : j < l.length), j < i + 1 → rwB l[j].row = true) := fun j h hj => by
        by_cases e : j = i
        · subst e; rw [Hd.out]; exact HRW.out
        · exact HA.out j h (by omega)
      have HN' : Hid (onR (l.take (i + 1)) px py = (b || (z == 0))) := (by rw [onR_succ hil, HN.out, ← insR_zero, Hz.out] : onR (l.take (i + 1)) px py = (b || (z == 0)))
      clear hIn hPP k0 k05 hHeld hb6 hp hPts hwj1 hjj htn hjc hj1
      have ho1 : -1 ≤ o ∧ o ≤ 1 := by rcases HO.out.1 with h | h <;> omega
      obtain ⟨ho1, ho2⟩ := ho1
      by_cases hz1 : z = 1
      · subst hz1
        have HO1 : Hid (OddP l px py (i + 1) (-o)) := HO.out.one hil Hz.out
        have hn1 : IntKind.i64.wrap (-o) = -o := by rw [IntKind.wrap_i64]; omega
        cases b
        · go_wp2_with fail
          refine (lawClosed_any a' m c' d.row (f i) w6 hp6 Hm.out (by omega)).mono ?_
          rintro e w7 ⟨rfl, hb7⟩
          rw [HC.out]
          have HB7 : Hid (Bel w w7) := bel_step HB6.out hb7
          have hB7 := bel_step hB6 hb7
          have k07 := bel_cellM hb7 hb66 k06
          have hp7 := hp6.bel ptE hb7
          have hb77 := bel_lt hb7 hb66
          clear k06
          cases C
          · go_wp2_with fail
            refine (lawClosed_any a' m c' d.row (f i) w7 hp7 Hm.out (by omega)).mono ?_
            rintro e w9 ⟨rfl, hb9⟩
            rw [HC.out]
            clear k07
            go_wp2
            go_ret
            exact ⟨rfl, bel_step HB7.out hb9⟩
          · go_wp2_with fail
            refine (lawClosed_any a' m c' d.row (f i) w7 hp7 Hm.out (by omega)).mono ?_
            rintro e w9 ⟨rfl, hb9⟩
            rw [HC.out]
            have hB9 := bel_step hB7 hb9
            clear k07
            go_wp2
            go_roundw
            case rel => exact ⟨i + 1, -o, false, by omega, by go_num, rfl, rfl, HO1.out, (by rw [HN'.out]; rfl), HA'.out, hB9⟩
            case measure => simp [intOf]; omega
        · go_wp2_with fail
          refine (lawClosed_any a' m c' d.row (f i) w6 hp6 Hm.out (by omega)).mono ?_
          rintro e w7 ⟨rfl, hb7⟩
          rw [HC.out]
          have HB7 : Hid (Bel w w7) := bel_step HB6.out hb7
          have hB7 := bel_step hB6 hb7
          have k07 := bel_cellM hb7 hb66 k06
          have hp7 := hp6.bel ptE hb7
          have hb77 := bel_lt hb7 hb66
          clear k06
          cases C
          · go_wp2_with fail
            refine (lawClosed_any a' m c' d.row (f i) w7 hp7 Hm.out (by omega)).mono ?_
            rintro e w9 ⟨rfl, hb9⟩
            rw [HC.out]
            clear k07
            go_wp2
            go_ret
            exact ⟨rfl, bel_step HB7.out hb9⟩
          · go_wp2_with fail
            refine (lawClosed_any a' m c' d.row (f i) w7 hp7 Hm.out (by omega)).mono ?_
            rintro e w9 ⟨rfl, hb9⟩
            rw [HC.out]
            have hB9 := bel_step hB7 hb9
            clear k07
            go_wp2
            go_roundw
            case rel => exact ⟨i + 1, -o, true, by omega, by go_num, rfl, rfl, HO1.out, (by rw [HN'.out]; rfl), HA'.out, hB9⟩
            case measure => simp [intOf]; omega
      · have hzb : (z == 1) = false := by simpa using hz1
        have HO1 : Hid (OddP l px py (i + 1) o) := HO.out.not hil (by rw [Hz.out]; exact hz1)
        cases b
        · rcases Bool.eq_false_or_eq_true (z == 0) with hz0 | hz0
          · rw [hz0] at HN'
            go_wp2_with fail
            refine (lawClosed_any a' m c' d.row (f i) w6 hp6 Hm.out (by omega)).mono ?_
            rintro e w9 ⟨rfl, hb9⟩
            rw [HC.out]
            have HB9 : Hid (Bel w w9) := bel_step HB6.out hb9
            have hB9 := bel_step hB6 hb9
            clear k06
            cases C
            · go_wp2
              go_ret
              exact ⟨rfl, HB9.out⟩
            · go_wp2
              go_roundw
              case rel => exact ⟨i + 1, o, true, by omega, by go_num, rfl, rfl, HO1.out, (by rw [HN'.out]; first | rfl | simp), HA'.out, hB9⟩
              case measure => simp [intOf]; omega
          · rw [hz0] at HN'
            go_wp2_with fail
            refine (lawClosed_any a' m c' d.row (f i) w6 hp6 Hm.out (by omega)).mono ?_
            rintro e w9 ⟨rfl, hb9⟩
            rw [HC.out]
            have HB9 : Hid (Bel w w9) := bel_step HB6.out hb9
            have hB9 := bel_step hB6 hb9
            clear k06
            cases C
            · go_wp2
              go_ret
              exact ⟨rfl, HB9.out⟩
            · go_wp2
              go_roundw
              case rel => exact ⟨i + 1, o, false, by omega, by go_num, rfl, rfl, HO1.out, (by rw [HN'.out]; first | rfl | simp), HA'.out, hB9⟩
              case measure => simp [intOf]; omega
        · go_wp2_with fail
          refine (lawClosed_any a' m c' d.row (f i) w6 hp6 Hm.out (by omega)).mono ?_
          rintro e w9 ⟨rfl, hb9⟩
          rw [HC.out]
          have HB9 : Hid (Bel w w9) := bel_step HB6.out hb9
          have hB9 := bel_step hB6 hb9
          clear k06
          cases C
          · go_wp2
            go_ret
            exact ⟨rfl, HB9.out⟩
          · go_wp2
            go_roundw
            case rel => exact ⟨i + 1, o, true, by omega, by go_num, rfl, rfl, HO1.out, (by rw [HN'.out]; first | rfl | simp), HA'.out, hB9⟩
            case measure => simp [intOf]; omega
    · have e : i = n := by omega
      subst e
      have HRG : Hid (rgsB l = true) := rgsB_true (by rw [HLn.out]; omega) (fun j hj => HA.out j hj (by rw [← HLn.out]; exact hj))
      have HI : Hid (AL = insR l px py) := (by rw [← HAL.out]; exact insOf_ok HRG.out hpk : AL = insR l px py)
      have HN2 : Hid (onR l px py = b) := (by have := HN.out; rw [List.take_of_length_le (by rw [HLn.out]; exact Nat.le_refl _)] at this; exact this : onR l px py = b)
      cases b
      · have hE : AL = o := by rw [HI.out]; exact odd_end (by rw [HLn.out]; exact HO.out) HN2.out
        subst hE
        have hEE : (AL == AL) = true := by simp
        go_wp2
        go_ret
        exact ⟨rfl, HBr.out⟩
      · have hE : AL = 0 := by rw [HI.out]; exact odd_on HN2.out
        subst hE
        go_wp2
        go_ret
        exact ⟨rfl, HBr.out⟩
end Go.Proofs.Ytkpgcnfokohhiaa

