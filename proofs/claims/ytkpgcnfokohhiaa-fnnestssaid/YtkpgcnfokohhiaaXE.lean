/-
  The walk of the law: for every row of bytes FnEvenOdd says true.
  A closed row turned round: where a point lies in it is the same: plain mathematics.
  The law's own small functions on rings and numbers: contracts.
  Orient in the program, also how much room its answer has: contract.
  The walk of the law: for every row of bytes FnNests says true.
-/
import Derived.Test.YtkpgcnfokohhiaaXA
import Derived.Test.YtkpgcnfokohhiaaXB
import Derived.Test.YtkpgcnfokohhiaaInsI
import Derived.Test.YtkpgcnfokohhiaaSmpL
import Derived.Test.YtkpgcnfokohhiaaOrnC
import Derived.Deep.QuietTactic
import Derived.Test.YtkpgcnfokohhiaaOrnE
import Derived.Test.YtkpgcnfokohhiaaNstI
namespace Go.Proofs.Ytkpgcnfokohhiaa
open Go.RowKit

/-- The law's own ring. -/
def litR : RingD := ⟨[⟨0, 0⟩, ⟨4, 0⟩, ⟨0, 4⟩, ⟨0, 0⟩], false⟩
theorem lit_ring (w : World) : RingL ((w.alloc (.cells #[.int .i64 0, .int .i64 0, .int .i64 4, .int .i64 0, .int .i64 0, .int .i64 4, .int .i64 0, .int .i64 0] 26)).alloc (.cells #[.slice (some ⟨w.heap.size, 0, none⟩) 4 4, .bool false] 32)) (some ⟨w.heap.size + 1, 0, none⟩) [litR] [w.heap.size + 1, w.heap.size] := by
  have XA : Blk ((w.alloc (.cells #[.int .i64 0, .int .i64 0, .int .i64 4, .int .i64 0, .int .i64 0, .int .i64 4, .int .i64 0, .int .i64 0] 26)).alloc (.cells #[.slice (some ⟨w.heap.size, 0, none⟩) 4 4, .bool false] 32)) w.heap.size [.int .i64 0, .int .i64 0, .int .i64 4, .int .i64 0, .int .i64 0, .int .i64 4, .int .i64 0, .int .i64 0] := (Blk.new w [.int .i64 0, .int .i64 0, .int .i64 4, .int .i64 0, .int .i64 0, .int .i64 4, .int .i64 0, .int .i64 0] _).bel (bel_alloc (Bel.refl _) _)
  have XB : Blk ((w.alloc (.cells #[.int .i64 0, .int .i64 0, .int .i64 4, .int .i64 0, .int .i64 0, .int .i64 4, .int .i64 0, .int .i64 0] 26)).alloc (.cells #[.slice (some ⟨w.heap.size, 0, none⟩) 4 4, .bool false] 32)) (w.heap.size + 1) [.slice (some ⟨w.heap.size, 0, none⟩) 4 4, .bool false] := Blk.new1 w _ [.slice (some ⟨w.heap.size, 0, none⟩) 4 4, .bool false] _
  refine .inr ⟨w.heap.size + 1, 0, fun _ => [w.heap.size], rfl, XB.lt, rfl, fun i hi => ?_⟩
  obtain rfl : i = 0 := by simp at hi; exact hi
  have z0 : In64 0 := ⟨by decide, by decide⟩
  have z4 : In64 4 := ⟨by decide, by decide⟩
  refine ⟨some ⟨w.heap.size, 0, none⟩, 4, (show 4 ≤ maxLen by unfold maxLen; omega), XB.cell 0 (by simp), XB.cell 1 (by simp), .inr ⟨w.heap.size, 0, fun _ => [], rfl, XA.lt, rfl, fun j hj => ?_⟩⟩
  have hj' : j < 4 := hj
  rcases (show j = 0 ∨ j = 1 ∨ j = 2 ∨ j = 3 by omega) with rfl | rfl | rfl | rfl
  · exact ⟨rfl, z0, z0, XA.cell 0 (by simp), XA.cell 1 (by simp)⟩
  · exact ⟨rfl, z4, z0, XA.cell 2 (by simp), XA.cell 3 (by simp)⟩
  · exact ⟨rfl, z0, z4, XA.cell 4 (by simp), XA.cell 5 (by simp)⟩
  · exact ⟨rfl, z0, z0, XA.cell 6 (by simp), XA.cell 7 (by simp)⟩
theorem lit_small : ∀ i (h : i < [litR].length), [litR][i].row.length ≤ 1048576 := fun i h => by
  have e : i = 0 := by simp at h; exact h
  subst e
  show 4 ≤ 1048576
  decide
theorem one_small {r : RingD} (hr : r.row.length ≤ 1048576) : ∀ i (h : i < [r].length), [r][i].row.length ≤ 1048576 := fun i h => by
  have e : i = 0 := by simp at h; exact h
  subst e
  exact hr
theorem rgs_single {r : RingD} (h : rwB r.row = true) : rgsB [r] = true := by simp [rgsB, h]
theorem lit_in : insOf [litR] 1 1 = 1 := ins_lit
theorem rwB_ok {l : List PtD} (h : okA l.length (lx l) (ly l) = true) (hl : l.length ≤ 2000) : rwB l = true := by
  unfold rwB rowB
  rw [decide_eq_true hl, Bool.true_and]
  exact h
theorem rwB_no {l : List PtD} (h : okA l.length (lx l) (ly l) = false) : rwB l = false := by
  unfold rwB rowB
  rw [Bool.and_eq_false_iff]
  exact .inr h
theorem rwB_long {l : List PtD} (h : ¬ l.length ≤ 2000) : rwB l = false := by
  unfold rwB rowB
  rw [Bool.and_eq_false_iff]
  exact .inl (by simpa using h)

set_option maxRecDepth 100000 in
set_option maxHeartbeats 4000000 in
theorem lawFnEvenOdd_any (a : Option Addr) (n0 c0 : Nat) (w : World) (hS : Bts w a n0) (_hm : n0 ≤ 9223372036854775807) :
    Calls Try.prog 3 #[.slice a n0 c0] w fun e w' => e = .returned (.bool true) ∧ Bel w w' := by
  by_cases hn0 : n0 ≤ 1048576
  rotate_left
  · have hbig : decide (1048576 < (n0 : Int)) = true := by simp; omega
    go_enter Try.func3, Try.ntmps3
    go_wp2_with fail
    refine (big_any a n0 c0 w).mono ?_
    rintro e w' ⟨rfl, rfl⟩
    rw [hbig]
    go_wp2
    go_ret
    exact ⟨rfl, Bel.refl _⟩
  have hbig : decide (1048576 < (n0 : Int)) = false := by simp; omega
  go_enter Try.func3, Try.ntmps3
  go_wp2_with fail
  refine (big_any a n0 c0 w).mono ?_
  rintro e w' ⟨rfl, hw⟩
  have hw := hw.symm
  subst hw
  rw [hbig]
  go_wp2_with fail
  refine (drawInside_any a n0 c0 w hS hn0).mono ?_
  rintro e w1 ⟨v, l, px, py, rfl, hl45, hG, hB1⟩
  obtain ⟨va, vc, bs, rfl, hcap, hR, _, hrow⟩ := hG.read
  obtain ⟨n, HLn⟩ : ∃ q, Hid (l.length = q) := ⟨_, (rfl : l.length = _)⟩
  rw [HLn.out] at hcap hl45 ⊢
  have HRow : Hid (∀ i (h : i < l.length), l[i].row.length ≤ 2001) := hrow
  obtain ⟨V, HV⟩ : ∃ V, Hid (V = w1.alloc (.cells #[.int .i64 px, .int .i64 py] 26)) := ⟨_, (rfl : w1.alloc (.cells #[.int .i64 px, .int .i64 py] 26) = _)⟩
  have hbV : Bel w1 V := by rw [HV.out]; exact bel_alloc (Bel.refl _) _
  have XP : Blk V w1.heap.size [.int .i64 px, .int .i64 py] := by rw [HV.out]; exact Blk.new w1 [.int .i64 px, .int .i64 py] _
  obtain ⟨U, HU⟩ : ∃ U, Hid (U = (V.alloc (.cells #[.int .i64 0, .int .i64 0, .int .i64 4, .int .i64 0, .int .i64 0, .int .i64 4, .int .i64 0, .int .i64 0] 26)).alloc (.cells #[.slice (some ⟨V.heap.size, 0, none⟩) 4 4, .bool false] 32)) := ⟨_, (rfl : (V.alloc (.cells #[.int .i64 0, .int .i64 0, .int .i64 4, .int .i64 0, .int .i64 0, .int .i64 4, .int .i64 0, .int .i64 0] 26)).alloc (.cells #[.slice (some ⟨V.heap.size, 0, none⟩) 4 4, .bool false] 32) = _)⟩
  have hbU : Bel V U := by rw [HU.out]; exact bel_alloc (bel_alloc (Bel.refl _) _) _
  have hLit : RingL U (some ⟨V.heap.size + 1, 0, none⟩) [litR] [V.heap.size + 1, V.heap.size] := by rw [HU.out]; exact lit_ring V
  clear hG hrow
  go_upto_region 4 with fail
  rw [← HV.out]
  go_wp2_with fail
  rw [← HU.out]
  refine (inside_any _ 1 1 [litR] _ 1 1 _ hLit rfl (by decide) lit_small).mono ?_
  rintro e w2 ⟨rfl, hb2⟩
  rw [lit_in]
  have hB2 : Bel w1 w2 := bel_step hbV (bel_step hbU hb2)
  have XP2 := XP.bel (bel_step hbU hb2)
  have R2 := hR.bel ringE hB2
  obtain ⟨AL, HAL⟩ : ∃ q, Hid (insOf l px py = q) := ⟨_, (rfl : insOf l px py = _)⟩
  have p0 : w2.cell? ⟨w1.heap.size, 0, none⟩ = some (.int .i64 px) := XP2.cell 0 (by simp)
  have p1 : w2.cell? ⟨w1.heap.size, 1, none⟩ = some (.int .i64 py) := XP2.cell 1 (by simp)
  have pl := XP2.lt
  clear hLit XP hbU hb2
  go_wp2_with fail
  refine (inside_any _ n _ l bs px py _ R2 HLn.out (by omega) (fun i hi => Nat.le_trans (HRow.out i hi) (by decide))).mono ?_
  rintro e w3 ⟨rfl, hb3⟩
  rw [HAL.out]
  have hB3 := bel_step hB2 hb3
  have XP3 := XP2.bel hb3
  have R3 := R2.bel ringE hb3
  have HBw : Hid (Bel w w3) := bel_step hB1 hB3
  have s0 : w3.cell? ⟨w1.heap.size, 0, none⟩ = some (.int .i64 px) := XP3.cell 0 (by simp)
  have s1 : w3.cell? ⟨w1.heap.size, 1, none⟩ = some (.int .i64 py) := XP3.cell 1 (by simp)
  have sl := XP3.lt
  clear p0 p1 pl R2 XP2 hb3 hR
  by_cases h40 : (40 : Int) < (n : Int)
  · have h40b : decide ((40 : Int) < (n : Int)) = true := by simp only [h40, decide_true]
    have hAL : AL = -1 := by rw [← HAL.out]; exact insOf_bad (.inl (rgsB_big (by rw [HLn.out]; omega)))
    subst hAL
    go_wp2
    go_ret
    exact ⟨rfl, HBw.out⟩
  have h40b : decide ((40 : Int) < (n : Int)) = false := by simp only [h40, decide_false]
  rcases Bool.eq_false_or_eq_true (pok px py) with hpk | hpk
  rotate_left
  · have hAL : AL = -1 := by rw [← HAL.out]; exact insOf_bad (.inr hpk)
    subst hAL
    go_wp2_with fail
    refine (pointOk_any px py w3).mono ?_
    rintro e w4 ⟨rfl, hb4⟩
    rw [hpk]
    go_wp2
    go_ret
    exact ⟨rfl, bel_step HBw.out hb4⟩
  go_wp2_with fail
  refine (pointOk_any px py w3).mono ?_
  rintro e w4 ⟨rfl, hb4⟩
  rw [hpk]
  have HB4 : Hid (Bel w w4) := bel_step HBw.out hb4
  have HXP : Hid (Blk w4 w1.heap.size [.int .i64 px, .int .i64 py]) := XP3.bel hb4
  have HR4 : Hid (RingL w4 va l bs) := R3.bel ringE hb4
  clear s0 s1 sl XP3 R3 HBw hb4
  go_wp2
  go_loopw [6, 7, 8, 9] (fun od on ix _ wr => ∃ (i : Nat) (o : Int) (b : Bool), i ≤ n ∧ ix = .int .i64 i ∧ od = .int .i64 o ∧ on = .bool b ∧ Hid (OddP l px py i o) ∧ Hid (onR (l.take i) px py = b) ∧ Hid (∀ j (h : j < l.length), j < i → rwB l[j].row = true) ∧ Bel w4 wr) (fun _ _ ix _ _ => n - (intOf ix).toNat)
  case atStart => exact ⟨0, -1, false, Nat.zero_le _, rfl, rfl, rfl, OddP.zero _ _ _, rfl, fun j h hj => absurd hj (Nat.not_lt_zero _), Bel.refl _⟩
  case round =>
    obtain ⟨i, o, b, hi, rfl, rfl, rfl, HO, HN, HA, hBr⟩ := hrel
    have HBr : Hid (Bel w wr) := bel_step HB4.out hBr
    by_cases hlt : i < n
    · have hil : i < l.length := by rw [HLn.out]; exact hlt
      have hlt' : (i : Int) < (n : Int) := by omega
      obtain ⟨rb, off, f, rfl, hb, hx⟩ := (HR4.out.bel ringE hBr).out hil
      have HX : Hid (∀ i (h : i < l.length), RingE wr rb (off + i * 2) l[i] (f i)) := hx
      obtain ⟨a', c', hml, k0, k1, hp⟩ := hx i hil
      obtain ⟨d, Hd⟩ : ∃ d, Hid (l[i] = d) := ⟨_, (rfl : l[i] = _)⟩
      rw [Hd.out] at k0 k1 hp hml
      have hm1 : d.row.length ≤ 2001 := by rw [← Hd.out]; exact HRow.out i hil
      obtain ⟨m, Hm⟩ : ∃ q, Hid (d.row.length = q) := ⟨_, (rfl : d.row.length = _)⟩
      rw [Hm.out] at k0 hm1
      have hPts : Pts wr a' m (lx d.row) (ly d.row) := by have := Sl.pts hp; rw [Hm.out] at this; exact this
      clear hx
      go_wp2_with fail
      refine (allOk_any a' m c' _ _ wr hPts (by omega)).mono ?_
      rintro e w5 ⟨rfl, hb5⟩
      rcases Bool.eq_false_or_eq_true (okA m (lx d.row) (ly d.row)) with hok | hok
      rotate_left
      · have hAL : AL = -1 := by rw [← HAL.out]; exact insOf_bad (.inl (rgsB_at hil (by rw [Hd.out]; exact rwB_no (by rw [Hm.out]; exact hok))))
        subst hAL
        rw [hok]
        go_wp2
        go_ret
        exact ⟨rfl, bel_step HBr.out hb5⟩
      have k05 := bel_cellM hb5 hb k0
      have hb55 : rb < w5.heap.size := bel_lt hb5 hb
      rw [hok]
      by_cases h2k : (2000 : Int) < (m : Int)
      · have h2b : decide ((2000 : Int) < (m : Int)) = true := by simp only [h2k, decide_true]
        have hAL : AL = -1 := by rw [← HAL.out]; exact insOf_bad (.inl (rgsB_at hil (by rw [Hd.out]; exact rwB_long (by rw [Hm.out]; omega))))
        subst hAL
        go_wp2
        go_ret
        exact ⟨rfl, bel_step HBr.out hb5⟩
      have h2b : decide ((2000 : Int) < (m : Int)) = false := by simp only [h2k, decide_false]
      have HRW : Hid (rwB d.row = true) := rwB_ok (by rw [Hm.out]; exact hok) (by rw [Hm.out]; omega)
      have HG1 : Hid (rgsB [l[i]] = true) := rgs_single (by rw [Hd.out]; exact HRW.out)
      obtain ⟨z, Hz⟩ : ∃ z, Hid (insR [l[i]] px py = z) := ⟨_, (rfl : insR [l[i]] px py = _)⟩
      have HB5 : Hid (Bel w w5) := bel_step HBr.out hb5
      have hB45 := bel_step hBr hb5
      have g0 : Bel w5 w5 := Bel.refl _
      have hIn : ∀ w', Bel w5 w' → Calls Try.prog 7 #[.slice (some ⟨rb, off + i * 2, none⟩) 1 (vc - i), .agg #[.int .i64 px, .int .i64 py]] w' fun e w2 => e = .returned (.int .i64 z) ∧ Bel w' w2 := fun w' h => by
        refine (inside_any _ 1 (vc - i) [l[i]] _ px py w' ((Sl.one hb HX.out hil).bel ringE (bel_step hb5 h)) rfl (by decide) (one_small (by rw [Hd.out, Hm.out]; omega))).mono ?_
        rintro e w2 ⟨rfl, hb2⟩
        rw [insOf_ok HG1.out hpk, Hz.out]
        exact ⟨rfl, hb2⟩
      have hPP : ∀ w', Bel w5 w' → w'.cell? ⟨w1.heap.size, 0, none⟩ = some (.int .i64 px) ∧ w'.cell? ⟨w1.heap.size, 1, none⟩ = some (.int .i64 py) := fun w' h => ⟨(HXP.out.bel (bel_step hB45 h)).cell 0 (by simp), (HXP.out.bel (bel_step hB45 h)).cell 1 (by simp)⟩
      have hwj1 : IntKind.i64.wrap ((i : Int) + 1) = i + 1 := by rw [IntKind.wrap_i64]; omega
      have hj0 : (0 : Int) ≤ (i : Int) := by omega
      have hj1 : (0 : Int) ≤ (i : Int) + 1 := by omega
      have hjc : (i : Int) + 1 ≤ (vc : Int) := by omega
      have hjj : (i : Int) ≤ (i : Int) + 1 := by omega
      have htn : ((i : Int) + 1).toNat = i + 1 := by omega
      have hcj : ¬ vc = i := by omega
      go_upto_region 16 with fail
      refine wp_region_noPanic ?_
      refine wp_region_held_drew (S := fun w' => Bel w5 w') (by kernel_rfl) (Bel.drew g0) (fun hHeld => ?_)
      refine wpAnyH_take (i := 0) (oi := { dst := some 64, op := Go.Op.move (Go.Operand.tmp 3), type := 24, pos := "laws.go:374", after := #[], guard := none }) (v := ?vab0) rfl (by kernel_rfl) (by kernel_rfl) (by kernel_rfl) (fun _ _ _ h => h) (Or.inl ⟨by rfl, ?hab0⟩) hHeld ?rab0
      case hab0 => (intro w hSw; (try dsimp only at hSw); go_simp; try with_reducible rfl)
      try simp only [Act.put, List.setIfInBounds_toArray, List.set_cons_zero, List.set_cons_succ]
      refine wpAnyH_take (i := 1) (oi := { dst := some 65, op := Go.Op.move (Go.Operand.tmp 8), type := 3, pos := "laws.go:374", after := #[], guard := none }) (v := ?vab1) rfl (by kernel_rfl) (by kernel_rfl) (by kernel_rfl) (fun _ _ _ h => h) (Or.inl ⟨by rfl, ?hab1⟩) hHeld ?rab1
      case hab1 => (intro w hSw; (try dsimp only at hSw); go_simp; try with_reducible rfl)
      try simp only [Act.put, List.setIfInBounds_toArray, List.set_cons_zero, List.set_cons_succ]
      refine wpAnyH_take (i := 2) (oi := { dst := some 66, op := Go.Op.move (Go.Operand.tmp 8), type := 3, pos := "laws.go:374", after := #[], guard := none }) (v := ?vab2) rfl (by kernel_rfl) (by kernel_rfl) (by kernel_rfl) (fun _ _ _ h => h) (Or.inl ⟨by rfl, ?hab2⟩) hHeld ?rab2
      case hab2 => (intro w hSw; (try dsimp only at hSw); go_simp; try with_reducible rfl)
      try simp only [Act.put, List.setIfInBounds_toArray, List.set_cons_zero, List.set_cons_succ]
      refine wpAnyH_take (i := 3) (oi := { dst := some 67, op := Go.Op.binOp Go.BinOp.add 3 (Go.Operand.tmp 66) (Go.Operand.const (Go.Value.int Go.IntKind.i64 1)) 3, type := 3, pos := "laws.go:374", after := #[{ on := 2, ground := Go.Ground.data }], guard := none }) (v := ?vab3) rfl (by kernel_rfl) (by kernel_rfl) (by kernel_rfl) (fun _ _ _ h => h) (Or.inl ⟨by rfl, ?hab3⟩) hHeld ?rab3
      case hab3 => (intro w hSw; (try dsimp only at hSw); go_simp; try with_reducible rfl)
      try simp only [Act.put, List.setIfInBounds_toArray, List.set_cons_zero, List.set_cons_succ]
      refine wpAnyH_take (i := 4) (oi := { dst := some 68, op := Go.Op.slice 24 (Go.Operand.tmp 64) (some (Go.Operand.tmp 65)) (some (Go.Operand.tmp 67)) none, type := 24, pos := "laws.go:374", after := #[{ on := 0, ground := Go.Ground.data }, { on := 1, ground := Go.Ground.data }, { on := 3, ground := Go.Ground.data }], guard := none }) (v := ?vab4) rfl (by kernel_rfl) (by kernel_rfl) (by kernel_rfl) (fun _ _ _ h => h) (Or.inl ⟨by rfl, ?hab4⟩) hHeld ?rab4
      case hab4 => (intro w hSw; (try dsimp only at hSw); go_simp; try with_reducible rfl)
      try simp only [Act.put, List.setIfInBounds_toArray, List.set_cons_zero, List.set_cons_succ]
      refine wpAnyH_take (i := 5) (oi := { dst := some 69, op := Go.Op.load 26 (Go.Operand.tmp 4), type := 26, pos := "laws.go:374", after := #[], guard := none }) (v := ?vab5) rfl (by kernel_rfl) (by kernel_rfl) (by kernel_rfl) (fun _ _ _ h => h) (Or.inl ⟨by rfl, ?hab5⟩) hHeld ?rab5
      case hab5 => (intro w hSw; (try dsimp only at hSw); go_simp; try with_reducible rfl)
      try simp only [Act.put, List.setIfInBounds_toArray, List.set_cons_zero, List.set_cons_succ]
      refine wpAnyH_ready (rs := [6]) (by kernel_rfl) (by simp) ?_
      refine AllReadyH.cons (o := { dst := some 70, op := Go.Op.call { callee := Go.Callee.value (Go.Operand.func 7), args := #[Go.Operand.tmp 68, Go.Operand.tmp 69], argTypes := #[24, 26] }, type := 2, pos := "laws.go:374", after := #[{ on := 4, ground := Go.Ground.data }, { on := 5, ground := Go.Ground.data }], guard := none }) rfl (fun K hK => ?_) AllReadyH.nil
      go_simp
      refine (hIn _ hHeld).mono ?_
      rintro e w6 ⟨rfl, hb6⟩
      go_wp2_with fail
      refine hK.out _ _ (bel_step hHeld hb6) (fun hHeld' => ?_)
      clear hK K hHeld
      have hHeld := hHeld'
      clear hHeld'
      try simp only [Act.put, List.setIfInBounds_toArray, List.set_cons_zero, List.set_cons_succ]
      refine wpAnyH_take (i := 7) (oi := { dst := some 9, op := Go.Op.assign (Go.Operand.tmp 70), type := 2, pos := "laws.go:374", after := #[{ on := 6, ground := Go.Ground.data }, { on := 6, ground := Go.Ground.chain }, { on := 0, ground := Go.Ground.phase }, { on := 1, ground := Go.Ground.phase }, { on := 2, ground := Go.Ground.phase }, { on := 3, ground := Go.Ground.phase }, { on := 4, ground := Go.Ground.phase }, { on := 5, ground := Go.Ground.phase }, { on := 6, ground := Go.Ground.phase }], guard := none }) (v := ?vab7) rfl (by kernel_rfl) (by kernel_rfl) (by kernel_rfl) (fun _ _ _ h => h) (Or.inl ⟨by rfl, ?hab7⟩) hHeld ?rab7
      case hab7 => (intro w hSw; (try dsimp only at hSw); go_simp; try with_reducible rfl)
      try simp only [Act.put, List.setIfInBounds_toArray, List.set_cons_zero, List.set_cons_succ]
      refine wpAnyH_done (by kernel_rfl) ?_ _
      refine NoPanic.normal ?_
      have hB6 := bel_step hB45 hHeld
      have HB6 : Hid (Bel w w6) := bel_step HB5.out hHeld
      have k06 := bel_cellM hHeld hb55 k05
      have hb66 : rb < w6.heap.size := bel_lt hHeld hb55
      have hp6 : PtL w6 a' d.row (f i) := (hp.bel ptE hb5).bel ptE hHeld
      obtain ⟨C, HC⟩ : ∃ q, Hid (clB d.row = q) := ⟨_, (rfl : clB d.row = _)⟩
      have HA' : Hid (∀ j (h : j < l.length), j < i + 1 → rwB l[j].row = true) := fun j h hj => by
        by_cases e : j = i
        · subst e; rw [Hd.out]; exact HRW.out
        · exact HA.out j h (by omega)
      have HN' : Hid (onR (l.take (i + 1)) px py = (b || (z == 0))) := (by rw [onR_succ hil, HN.out, ← insR_zero, Hz.out] : onR (l.take (i + 1)) px py = (b || (z == 0)))
      clear hIn hPP k0 k05 hHeld hb6 hp hPts hwj1 hjj htn hjc hj1
      have ho1 : -1 ≤ o ∧ o ≤ 1 := by rcases HO.out.1 with h | h <;> omega
      obtain ⟨ho1, ho2⟩ := ho1
      by_cases hz1 : z = 1
      · subst hz1
        have HO1 : Hid (OddP l px py (i + 1) (-o)) := HO.out.one hil Hz.out
        have hn1 : IntKind.i64.wrap (-o) = -o := by rw [IntKind.wrap_i64]; omega
        cases b
        · go_wp2_with fail
          refine (lawClosed_any a' m c' d.row (f i) w6 hp6 Hm.out (by omega)).mono ?_
          rintro e w7 ⟨rfl, hb7⟩
          rw [HC.out]
          have HB7 : Hid (Bel w w7) := bel_step HB6.out hb7
          have hB7 := bel_step hB6 hb7
          have k07 := bel_cellM hb7 hb66 k06
          have hp7 := hp6.bel ptE hb7
          have hb77 := bel_lt hb7 hb66
          clear k06
          cases C
          · go_wp2_with fail
            refine (lawClosed_any a' m c' d.row (f i) w7 hp7 Hm.out (by omega)).mono ?_
            rintro e w9 ⟨rfl, hb9⟩
            rw [HC.out]
            clear k07
            go_wp2
            go_ret
            exact ⟨rfl, bel_step HB7.out hb9⟩
          · go_wp2_with fail
            refine (lawClosed_any a' m c' d.row (f i) w7 hp7 Hm.out (by omega)).mono ?_
            rintro e w9 ⟨rfl, hb9⟩
            rw [HC.out]
            have hB9 := bel_step hB7 hb9
            clear k07
            go_wp2
            go_roundw
            case rel => exact ⟨i + 1, -o, false, by omega, by go_num, rfl, rfl, HO1.out, (by rw [HN'.out]; rfl), HA'.out, hB9⟩
            case measure => simp [intOf]; omega
        · go_wp2_with fail
          refine (lawClosed_any a' m c' d.row (f i) w6 hp6 Hm.out (by omega)).mono ?_
          rintro e w7 ⟨rfl, hb7⟩
          rw [HC.out]
          have HB7 : Hid (Bel w w7) := bel_step HB6.out hb7
          have hB7 := bel_step hB6 hb7
          have k07 := bel_cellM hb7 hb66 k06
          have hp7 := hp6.bel ptE hb7
          have hb77 := bel_lt hb7 hb66
          clear k06
          cases C
          · go_wp2_with fail
            refine (lawClosed_any a' m c' d.row (f i) w7 hp7 Hm.out (by omega)).mono ?_
            rintro e w9 ⟨rfl, hb9⟩
            rw [HC.out]
            clear k07
            go_wp2
            go_ret
            exact ⟨rfl, bel_step HB7.out hb9⟩
          · go_wp2_with fail
            refine (lawClosed_any a' m c' d.row (f i) w7 hp7 Hm.out (by omega)).mono ?_
            rintro e w9 ⟨rfl, hb9⟩
            rw [HC.out]
            have hB9 := bel_step hB7 hb9
            clear k07
            go_wp2
            go_roundw
            case rel => exact ⟨i + 1, -o, true, by omega, by go_num, rfl, rfl, HO1.out, (by rw [HN'.out]; rfl), HA'.out, hB9⟩
            case measure => simp [intOf]; omega
      · have hzb : (z == 1) = false := by simpa using hz1
        have HO1 : Hid (OddP l px py (i + 1) o) := HO.out.not hil (by rw [Hz.out]; exact hz1)
        cases b
        · rcases Bool.eq_false_or_eq_true (z == 0) with hz0 | hz0
          · rw [hz0] at HN'
            go_wp2_with fail
            refine (lawClosed_any a' m c' d.row (f i) w6 hp6 Hm.out (by omega)).mono ?_
            rintro e w9 ⟨rfl, hb9⟩
            rw [HC.out]
            have HB9 : Hid (Bel w w9) := bel_step HB6.out hb9
            have hB9 := bel_step hB6 hb9
            clear k06
            cases C
            · go_wp2
              go_ret
              exact ⟨rfl, HB9.out⟩
            · go_wp2
              go_roundw
              case rel => exact ⟨i + 1, o, true, by omega, by go_num, rfl, rfl, HO1.out, (by rw [HN'.out]; first | rfl | simp), HA'.out, hB9⟩
              case measure => simp [intOf]; omega
          · rw [hz0] at HN'
            go_wp2_with fail
            refine (lawClosed_any a' m c' d.row (f i) w6 hp6 Hm.out (by omega)).mono ?_
            rintro e w9 ⟨rfl, hb9⟩
            rw [HC.out]
            have HB9 : Hid (Bel w w9) := bel_step HB6.out hb9
            have hB9 := bel_step hB6 hb9
            clear k06
            cases C
            · go_wp2
              go_ret
              exact ⟨rfl, HB9.out⟩
            · go_wp2
              go_roundw
              case rel => exact ⟨i + 1, o, false, by omega, by go_num, rfl, rfl, HO1.out, (by rw [HN'.out]; first | rfl | simp), HA'.out, hB9⟩
              case measure => simp [intOf]; omega
        · go_wp2_with fail
          refine (lawClosed_any a' m c' d.row (f i) w6 hp6 Hm.out (by omega)).mono ?_
          rintro e w9 ⟨rfl, hb9⟩
          rw [HC.out]
          have HB9 : Hid (Bel w w9) := bel_step HB6.out hb9
          have hB9 := bel_step hB6 hb9
          clear k06
          cases C
          · go_wp2
            go_ret
            exact ⟨rfl, HB9.out⟩
          · go_wp2
            go_roundw
            case rel => exact ⟨i + 1, o, true, by omega, by go_num, rfl, rfl, HO1.out, (by rw [HN'.out]; first | rfl | simp), HA'.out, hB9⟩
            case measure => simp [intOf]; omega
    · have e : i = n := by omega
      subst e
      have HRG : Hid (rgsB l = true) := rgsB_true (by rw [HLn.out]; omega) (fun j hj => HA.out j hj (by rw [← HLn.out]; exact hj))
      have HI : Hid (AL = insR l px py) := (by rw [← HAL.out]; exact insOf_ok HRG.out hpk : AL = insR l px py)
      have HN2 : Hid (onR l px py = b) := (by have := HN.out; rw [List.take_of_length_le (by rw [HLn.out]; exact Nat.le_refl _)] at this; exact this : onR l px py = b)
      cases b
      · have hE : AL = o := by rw [HI.out]; exact odd_end (by rw [HLn.out]; exact HO.out) HN2.out
        subst hE
        have hEE : (AL == AL) = true := by simp
        go_wp2
        go_ret
        exact ⟨rfl, HBr.out⟩
      · have hE : AL = 0 := by rw [HI.out]; exact odd_on HN2.out
        subst hE
        go_wp2
        go_ret
        exact ⟨rfl, HBr.out⟩
end Go.Proofs.Ytkpgcnfokohhiaa

namespace Go.Proofs.Ytkpgcnfokohhiaa
open Go.RowKit

theorem onB_swap (ax ay bx bY px py : Int) : onB ax ay bx bY px py = onB bx bY ax ay px py := by
  unfold onB
  have e : (sgn (trn bx bY ax ay px py) == 0) = (sgn (trn ax ay bx bY px py) == 0) := by
    rw [trn_swap]
    by_cases h : trn ax ay bx bY px py = 0
    · rw [h]; rfl
    · have h1 : ¬ sgn (trn ax ay bx bY px py) = 0 := fun h2 => h (sgn_zero_iff.1 h2)
      have h2 : ¬ sgn (-trn ax ay bx bY px py) = 0 := fun h3 => h (by have := sgn_zero_iff.1 h3; omega)
      rw [beq_false_of_ne h1, beq_false_of_ne h2]
  rw [e]
  have b : ∀ p a b, btwB p a b = btwB p b a := fun p a b => by
    unfold btwB
    exact Bool.or_comm _ _
  rw [b px ax bx, b py ay bY]
theorem rtB_swap (ax ay bx bY px py : Int) : rtB ax ay bx bY px py = rtB bx bY ax ay px py := by
  unfold rtB
  rw [trn_swap ax ay bx bY px py]
  have e1 : decide (0 < -trn ax ay bx bY px py) = decide (trn ax ay bx bY px py < 0) := by
    by_cases h : trn ax ay bx bY px py < 0
    · simp only [h, decide_true]; simp; omega
    · simp only [h, decide_false]; simp; omega
  have e2 : decide (-trn ax ay bx bY px py < 0) = decide (0 < trn ax ay bx bY px py) := by
    by_cases h : 0 < trn ax ay bx bY px py
    · simp only [h, decide_true]; simp; omega
    · simp only [h, decide_false]; simp; omega
  rw [e1, e2, Bool.or_comm]
theorem lx_rev {l : List PtD} {i : Nat} (h : i < l.length) : lx l.reverse i = lx l (l.length - 1 - i) := by
  rw [lx_at (by simpa using h), lx_at (by omega), List.getElem_reverse]
theorem ly_rev {l : List PtD} {i : Nat} (h : i < l.length) : ly l.reverse i = ly l (l.length - 1 - i) := by
  rw [ly_at (by simpa using h), ly_at (by omega), List.getElem_reverse]
theorem st_rev {l : List PtD} {px py : Int} {i : Nat} (h : i + 1 < l.length) : stOn l.reverse px py i = stOn l px py (l.length - 1 - 1 - i) ∧ stRt l.reverse px py i = stRt l px py (l.length - 1 - 1 - i) := by
  have e : l.length - 1 - 1 - i + 1 = l.length - 1 - i := by omega
  have e2 : l.length - 1 - (i + 1) = l.length - 1 - 1 - i := by omega
  unfold stOn stRt
  rw [lx_rev (by omega), ly_rev (by omega), lx_rev h, ly_rev h, e, e2]
  exact ⟨onB_swap _ _ _ _ _ _, rtB_swap _ _ _ _ _ _⟩
/-- Sums from behind. -/
def sm (g : Nat → Nat) : Nat → Nat
  | 0 => 0
  | k + 1 => sm g k + g k
theorem sm_congr {f g : Nat → Nat} : ∀ {k : Nat}, (∀ i, i < k → f i = g i) → sm f k = sm g k
  | 0, _ => rfl
  | k + 1, h => by rw [sm, sm, sm_congr fun i hi => h i (by omega), h k (by omega)]
theorem sm_shift (g : Nat → Nat) : ∀ k, sm g (k + 1) = g 0 + sm (fun j => g (j + 1)) k
  | 0 => by simp [sm]
  | k + 1 => by rw [sm, sm_shift g k, sm, Nat.add_assoc]
theorem sm_rev (k : Nat) : ∀ g : Nat → Nat, sm (fun i => g (k - 1 - i)) k = sm g k := by
  induction k with
  | zero => intro g; rfl
  | succ k ih =>
    intro g
    rw [sm_shift g k, ← ih fun j => g (j + 1)]
    show sm (fun i => g (k + 1 - 1 - i)) k + g (k + 1 - 1 - k) = _
    rw [show k + 1 - 1 - k = 0 by omega, Nat.add_comm]
    congr 1
    exact sm_congr fun i hi => by rw [show k + 1 - 1 - i = k - 1 - i + 1 by omega]
theorem cntT_sm (l : List PtD) (px py : Int) : ∀ k, cntT l px py k = sm (fun i => (stRt l px py i).toNat) k
  | 0 => rfl
  | k + 1 => by rw [cntT, sm, cntT_sm l px py k]
theorem cntT_rev (l : List PtD) (px py : Int) : cntT l.reverse px py (l.length - 1) = cntT l px py (l.length - 1) := by
  rw [cntT_sm, cntT_sm, ← sm_rev (l.length - 1) fun i => (stRt l px py i).toNat]
  exact sm_congr fun i hi => by rw [(st_rev (by omega)).2]
theorem onT_rev (l : List PtD) (px py : Int) : (List.range (l.length - 1)).any (stOn l.reverse px py) = (List.range (l.length - 1)).any (stOn l px py) := by
  rw [Bool.eq_iff_iff, List.any_eq_true, List.any_eq_true]
  constructor
  · rintro ⟨i, hi, h⟩
    have hi := List.mem_range.1 hi
    rw [(st_rev (by omega)).1] at h
    exact ⟨_, List.mem_range.2 (by omega), h⟩
  · rintro ⟨i, hi, h⟩
    have hi := List.mem_range.1 hi
    refine ⟨l.length - 1 - 1 - i, List.mem_range.2 (by omega), ?_⟩
    rw [(st_rev (by omega)).1, show l.length - 1 - 1 - (l.length - 1 - 1 - i) = i by omega]
    exact h
theorem insR_rev (r : List PtD) (b b' : Bool) (px py : Int) : insR [⟨r.reverse, b⟩] px py = insR [⟨r, b'⟩] px py := by
  rw [insR_one, insR_one]
  have e : onR [(⟨r.reverse, b⟩ : RingD)] px py = onR [(⟨r, b'⟩ : RingD)] px py := by
    unfold onR
    simp only [List.any_cons, List.any_nil, Bool.or_false, List.length_reverse]
    exact onT_rev r px py
  rw [e]
  simp only [List.length_reverse]
  rw [cntT_rev]
theorem insR_orn (d : RingD) (px py : Int) : insR [ornR d] px py = insR [d] px py := by
  unfold ornR
  split
  · exact insR_rev _ _ _ _ _
  · cases d; rfl
theorem cl_first {l : List PtD} (h : clB l = true) : lx l.reverse 0 = lx l 0 ∧ ly l.reverse 0 = ly l 0 := by
  rcases l with _ | ⟨p, r⟩
  · exact ⟨rfl, rfl⟩
  · simp only [clB, Bool.and_eq_true, decide_eq_true_eq] at h
    have hl : (p :: r).length - 1 < (p :: r).length := by simp
    rw [lx_rev (by simp), ly_rev (by simp), Nat.sub_zero, lx_at hl, ly_at hl, ← List.getLast_eq_getElem (by simp), ← h.1, ← h.2]
    exact ⟨rfl, rfl⟩
theorem orn_first {d : RingD} (h : clB d.row = true) : lx (ornR d).row 0 = lx d.row 0 ∧ ly (ornR d).row 0 = ly d.row 0 := by
  unfold ornR
  split
  · exact cl_first h
  · exact ⟨rfl, rfl⟩
theorem rwB_all (l : List PtD) : rwB l = (decide (l.length ≤ 2000) && l.all fun p => pok p.x p.y) := by
  unfold rwB rowB
  congr 1
  rw [Bool.eq_iff_iff, List.all_eq_true, List.all_eq_true]
  constructor
  · intro h p hp
    obtain ⟨i, hi, rfl⟩ := List.mem_iff_getElem.1 hp
    have := h i (List.mem_range.2 hi)
    rw [lx_at hi, ly_at hi] at this
    exact this
  · intro h i hi
    have hi := List.mem_range.1 hi
    rw [lx_at hi, ly_at hi]
    exact h _ (List.getElem_mem hi)
theorem rwB_rev (l : List PtD) : rwB l.reverse = rwB l := by rw [rwB_all, rwB_all, List.length_reverse, List.all_reverse]
theorem rwB_orn (d : RingD) : rwB (ornR d).row = rwB d.row := by
  unfold ornR
  split
  · exact rwB_rev _
  · rfl
theorem rgsB_orn {l : List RingD} (h : rgsB l = true) : rgsB (l.map ornR) = true := by
  unfold rgsB at h ⊢
  rw [Bool.and_eq_true] at h ⊢
  refine ⟨by simpa using h.1, ?_⟩
  rw [List.all_map]
  have e : ((fun r => rwB r.row) ∘ ornR) = fun r => rwB r.row := by funext d; exact rwB_orn d
  rw [e]
  exact h.2
theorem nst_orn {l : List RingD} (hc : ∀ i (h : i < l.length), clB l[i].row = true) : nstTo (l.map ornR) l.length = nstTo l l.length := by
  have hg : ∀ i (h : i < l.length), (l.map ornR).getD i ⟨[], false⟩ = ornR l[i] := fun i h => by simp [h]
  have hg' : ∀ i (h : i < l.length), l.getD i ⟨[], false⟩ = l[i] := fun i h => by simp [h]
  have hk : ∀ i (h : i < l.length) k (h' : k < l.length), inK (l.map ornR) i k = inK l i k := fun i h k h' => by
    unfold inK
    rw [hg i h, hg k h', hg' i h, hg' k h', insR_orn, (orn_first (hc i h)).1, (orn_first (hc i h)).2]
  have hs : ∀ i (h : i < l.length) m, m ≤ l.length → nsT (l.map ornR) i m = nsT l i m := fun i h m => by
    induction m with
    | zero => intro _; rfl
    | succ m ih =>
      intro hm
      show nsT (l.map ornR) i m + (inK (l.map ornR) i m).toNat = nsT l i m + (inK l i m).toNat
      rw [ih (by omega), hk i h m (by omega)]
  unfold nstTo
  refine List.map_congr_left fun i hi => ?_
  have hi := List.mem_range.1 hi
  have e : nst (l.map ornR) i = nst l i := by
    unfold nst
    rw [hg i hi, hg' i hi, ornR_len, List.length_map, hs i hi l.length (Nat.le_refl _)]
  rw [e]
theorem nstQ_orn {l : List RingD} (hr : rgsB l = true) (hc : ∀ i (h : i < l.length), clB l[i].row = true) : nstQ (ornQ l) = nstQ l := by
  unfold ornQ nstQ
  rw [hr]
  simp only [if_true]
  rw [rgsB_orn hr, List.length_map]
  simp only [if_true]
  exact nst_orn hc
end Go.Proofs.Ytkpgcnfokohhiaa

namespace Go.Proofs.Ytkpgcnfokohhiaa
open Go.RowKit

set_option maxRecDepth 100000 in
set_option maxHeartbeats 2000000 in
theorem lawRowsOk_any (a : Option Addr) (n c : Nat) (l : List RingD) (bs : List Nat) (w : World) (hT : RingL w a l bs) (hn : l.length = n) (hm : n ≤ 1048576) (hs : ∀ i (h : i < l.length), l[i].row.length ≤ 2001) :
    Calls Try.prog 13 #[.slice a n c] w fun e w' => e = .returned (.bool (l.all fun r => rwB r.row)) ∧ Bel w w' := by
  have Hn : Hid (l.length = n) := hn
  have HS : Hid (∀ i (h : i < l.length), l[i].row.length ≤ 2001) := hs
  obtain ⟨R, HR⟩ : ∃ R, Hid ((l.all fun r => rwB r.row) = R) := ⟨_, (rfl : (l.all fun r => rwB r.row) = _)⟩
  rw [HR.out]
  clear hn hs
  go_enter Try.func13, Try.ntmps13
  go_wp2
  go_loopw [3] (fun ix wr => ∃ i : Nat, i ≤ n ∧ ix = .int .i64 i ∧ Hid (∀ j (h : j < l.length), j < i → rwB l[j].row = true) ∧ Bel w wr) (fun ix _ => n - (intOf ix).toNat)
  case atStart => exact ⟨0, Nat.zero_le _, rfl, fun j h hj => absurd hj (Nat.not_lt_zero _), Bel.refl _⟩
  case round =>
    obtain ⟨i, hi, rfl, HA, hBr⟩ := hrel
    by_cases hlt : i < n
    · have hil : i < l.length := by rw [Hn.out]; exact hlt
      have hlt' : (i : Int) < (n : Int) := by omega
      obtain ⟨rb, off, f, rfl, hb, hx⟩ := (hT.bel ringE hBr).out hil
      obtain ⟨a', c', hml, k0, k1, hp⟩ := hx i hil
      obtain ⟨d, Hd⟩ : ∃ d, Hid (l[i] = d) := ⟨_, (rfl : l[i] = _)⟩
      rw [Hd.out] at k0 k1 hp hml
      have hm1 : d.row.length ≤ 2001 := by rw [← Hd.out]; exact HS.out i hil
      obtain ⟨m, Hm⟩ : ∃ q, Hid (d.row.length = q) := ⟨_, (rfl : d.row.length = _)⟩
      rw [Hm.out] at k0 hm1
      have HNo : Hid (rwB d.row = false → R = false) := fun h => by
        rw [← HR.out, List.all_eq_false]
        exact ⟨l[i], List.getElem_mem hil, by rw [Hd.out, h]; exact Bool.false_ne_true⟩
      have HYes : Hid (rwB d.row = true → ∀ j (h : j < l.length), j < i + 1 → rwB l[j].row = true) := fun h j hj hj2 => by
        by_cases e : j = i
        · subst e; rw [Hd.out]; exact h
        · exact HA.out j hj (by omega)
      clear hx
      have hPts : Pts wr a' m (lx d.row) (ly d.row) := by have := Sl.pts hp; rw [Hm.out] at this; exact this
      by_cases h2k : (2000 : Int) < (m : Int)
      · have h2b : decide ((2000 : Int) < (m : Int)) = true := by simp only [h2k, decide_true]
        have HF : Hid (R = false) := HNo.out (rwB_long (by rw [Hm.out]; omega))
        go_wp2
        go_ret
        exact ⟨by rw [HF.out]; rfl, hBr⟩
      have h2b : decide ((2000 : Int) < (m : Int)) = false := by simp only [h2k, decide_false]
      go_wp2_with fail
      refine (allOk_any a' m c' _ _ wr hPts (by omega)).mono ?_
      rintro e w5 ⟨rfl, hb5⟩
      rcases Bool.eq_false_or_eq_true (okA m (lx d.row) (ly d.row)) with hok | hok
      · have HY : Hid _ := HYes.out (rwB_ok (by rw [Hm.out]; exact hok) (by rw [Hm.out]; omega))
        have hB5 := bel_step hBr hb5
        rw [hok]
        clear k0 k1
        go_wp2
        go_roundw
        case rel => exact ⟨i + 1, by omega, by go_num, HY.out, hB5⟩
        case measure => simp [intOf]; omega
      · have HF : Hid (R = false) := HNo.out (rwB_no (by rw [Hm.out]; exact hok))
        rw [hok]
        go_wp2
        go_ret
        exact ⟨by rw [HF.out]; rfl, bel_step hBr hb5⟩
    · have e : i = n := by omega
      subst e
      have HF : Hid (R = true) := (by
        rw [← HR.out, List.all_eq_true]
        intro r hr
        obtain ⟨j, hj, rfl⟩ := List.mem_iff_getElem.1 hr
        exact HA.out j hj (by rw [← Hn.out]; exact hj) : R = true)
      go_wp2
      go_ret
      exact ⟨by rw [HF.out]; rfl, hBr⟩

set_option maxRecDepth 100000 in
set_option maxHeartbeats 2000000 in
theorem lawSimple_any (a : Option Addr) (n c : Nat) (l : List RingD) (bs : List Nat) (w : World) (hT : RingL w a l bs) (hn : l.length = n) (hm : n ≤ 1048576) (hs : ∀ i (h : i < l.length), l[i].row.length ≤ 2001) :
    Calls Try.prog 16 #[.slice a n c] w fun e w' => e = .returned (.bool (l.all fun r => clB r.row)) ∧ Bel w w' := by
  have Hn : Hid (l.length = n) := hn
  have HS : Hid (∀ i (h : i < l.length), l[i].row.length ≤ 2001) := hs
  obtain ⟨R, HR⟩ : ∃ R, Hid ((l.all fun r => clB r.row) = R) := ⟨_, (rfl : (l.all fun r => clB r.row) = _)⟩
  rw [HR.out]
  clear hn hs
  go_enter Try.func16, Try.ntmps16
  go_wp2
  go_loopw [3] (fun ix wr => ∃ i : Nat, i ≤ n ∧ ix = .int .i64 i ∧ Hid (∀ j (h : j < l.length), j < i → clB l[j].row = true) ∧ Bel w wr) (fun ix _ => n - (intOf ix).toNat)
  case atStart => exact ⟨0, Nat.zero_le _, rfl, fun j h hj => absurd hj (Nat.not_lt_zero _), Bel.refl _⟩
  case round =>
    obtain ⟨i, hi, rfl, HA, hBr⟩ := hrel
    by_cases hlt : i < n
    · have hil : i < l.length := by rw [Hn.out]; exact hlt
      have hlt' : (i : Int) < (n : Int) := by omega
      obtain ⟨rb, off, f, rfl, hb, hx⟩ := (hT.bel ringE hBr).out hil
      obtain ⟨a', c', hml, k0, k1, hp⟩ := hx i hil
      obtain ⟨d, Hd⟩ : ∃ d, Hid (l[i] = d) := ⟨_, (rfl : l[i] = _)⟩
      rw [Hd.out] at k0 k1 hp hml
      have hm1 : d.row.length ≤ 2001 := by rw [← Hd.out]; exact HS.out i hil
      obtain ⟨m, Hm⟩ : ∃ q, Hid (d.row.length = q) := ⟨_, (rfl : d.row.length = _)⟩
      rw [Hm.out] at k0 hm1
      have HNo : Hid (clB d.row = false → R = false) := fun h => by
        rw [← HR.out, List.all_eq_false]
        exact ⟨l[i], List.getElem_mem hil, by rw [Hd.out, h]; exact Bool.false_ne_true⟩
      have HYes : Hid (clB d.row = true → ∀ j (h : j < l.length), j < i + 1 → clB l[j].row = true) := fun h j hj hj2 => by
        by_cases e : j = i
        · subst e; rw [Hd.out]; exact h
        · exact HA.out j hj (by omega)
      clear hx
      go_wp2_with fail
      refine (lawClosed_any a' m c' d.row (f i) wr hp Hm.out (by omega)).mono ?_
      rintro e w5 ⟨rfl, hb5⟩
      rcases Bool.eq_false_or_eq_true (clB d.row) with hok | hok
      · have HY : Hid _ := HYes.out hok
        have hB5 := bel_step hBr hb5
        rw [hok]
        clear k0 k1
        go_wp2
        go_roundw
        case rel => exact ⟨i + 1, by omega, by go_num, HY.out, hB5⟩
        case measure => simp [intOf]; omega
      · have HF : Hid (R = false) := HNo.out hok
        rw [hok]
        go_wp2
        go_ret
        exact ⟨by rw [HF.out]; rfl, bel_step hBr hb5⟩
    · have e : i = n := by omega
      subst e
      have HF : Hid (R = true) := (by
        rw [← HR.out, List.all_eq_true]
        intro r hr
        obtain ⟨j, hj, rfl⟩ := List.mem_iff_getElem.1 hr
        exact HA.out j hj (by rw [← Hn.out]; exact hj) : R = true)
      go_wp2
      go_ret
      exact ⟨by rw [HF.out]; rfl, hBr⟩

theorem int_n {w : World} {b off : Nat} {l : List Int} {bs : List Nat} (h : Ints w (some ⟨b, off, none⟩) l bs) {k : Nat} (hk : k < l.length) : b < w.heap.size ∧ w.cell? ⟨b, off + k, none⟩ = some (.int .i64 l[k]) := by
  obtain ⟨b', off', f, e, hb, hx⟩ := h.out hk
  injection e with e
  injection e with e1 e2
  subst e1 e2
  have := (hx k hk).2.2
  rw [Nat.mul_one] at this
  exact ⟨hb, this⟩
set_option maxRecDepth 100000 in
set_option maxHeartbeats 2000000 in
theorem lawSameInts_any (a a' : Option Addr) (n n' c c' : Nat) (l l' : List Int) (bs bs' : List Nat) (w : World) (hP : Ints w a l bs) (hP' : Ints w a' l' bs') (hn : l.length = n) (hn' : l'.length = n') (hm : n ≤ 1048576) :
    Calls Try.prog 14 #[.slice a n c, .slice a' n' c'] w fun e w' => ∃ b : Bool, e = .returned (.bool b) ∧ (l = l' → b = true) ∧ Bel w w' := by
  have Hn : Hid (l.length = n) := hn
  have Hn' : Hid (l'.length = n') := hn'
  clear hn hn'
  by_cases he : (n : Int) = (n' : Int)
  rotate_left
  · have hE : ((n : Int) != (n' : Int)) = true := by simp only [bne_iff_ne, ne_eq]; exact he
    have HF : Hid (¬ l = l') := fun e => he (by rw [← Hn.out, ← Hn'.out, e])
    go_enter Try.func14, Try.ntmps14
    go_wp2
    go_ret
    exact ⟨false, rfl, fun e => absurd e HF.out, Bel.refl _⟩
  obtain rfl : n = n' := by omega
  have hE : ((n : Int) != (n : Int)) = false := by simp
  clear he
  go_enter Try.func14, Try.ntmps14
  go_wp2
  go_loopw [5] (fun ix wr => ∃ i : Nat, i ≤ n ∧ ix = .int .i64 i ∧ Bel w wr) (fun ix _ => n - (intOf ix).toNat)
  case atStart => exact ⟨0, Nat.zero_le _, rfl, Bel.refl _⟩
  case round =>
    obtain ⟨i, hi, rfl, hBr⟩ := hrel
    by_cases hlt : i < n
    · have hil : i < l.length := by rw [Hn.out]; exact hlt
      have hil' : i < l'.length := by rw [Hn'.out]; exact hlt
      have hlt' : (i : Int) < (n : Int) := by omega
      obtain ⟨rb, off, f, rfl, hb, _⟩ := hP.out hil
      obtain ⟨rb', off', f', rfl, hb', _⟩ := hP'.out hil'
      have k0 := (int_n (hP.bel intE hBr) hil).2
      have k1 := (int_n (hP'.bel intE hBr) hil').2
      obtain ⟨x, Hx⟩ : ∃ q, Hid (l[i] = q) := ⟨_, (rfl : l[i] = _)⟩
      obtain ⟨y, Hy⟩ : ∃ q, Hid (l'[i] = q) := ⟨_, (rfl : l'[i] = _)⟩
      rw [Hx.out] at k0
      rw [Hy.out] at k1
      by_cases hxy : x = y
      · have hxb : (x != y) = false := by simp [hxy]
        clear hxy
        go_wp2
        go_quiet (fail)
        go_wp2
        go_roundw
        case rel => exact ⟨i + 1, by omega, by go_num, bel_drewN hBr _⟩
        case measure => simp [intOf]; omega
      · have hxb : (x != y) = true := by simp [hxy]
        have HF : Hid (¬ l = l') := fun e => hxy (by subst e; rw [← Hx.out, ← Hy.out])
        clear hxy
        go_wp2
        go_quiet (fail)
        go_wp2
        go_ret
        exact ⟨false, rfl, fun e => absurd e HF.out, bel_drewN hBr _⟩
    · have e : i = n := by omega
      subst e
      go_wp2
      go_ret
      exact ⟨true, rfl, fun _ => rfl, hBr⟩
end Go.Proofs.Ytkpgcnfokohhiaa

namespace Go.Proofs.Ytkpgcnfokohhiaa
open Go.RowKit Go.Maps

set_option maxRecDepth 100000 in
set_option maxHeartbeats 2000000 in
theorem eachRc_any (a : Option Addr) (n c : Nat) (l : List RingD) (bs : List Nat) (w : World) (hT : RingL w a l bs) (hn : l.length = n) (hok : rgsB l = true) :
    Calls Try.prog 25 #[.slice a n c, .func (.func 26) #[] #[]] w fun e w' => ∃ v' bs', e = .returned v' ∧ (∃ a' c', v' = .slice a' n c' ∧ n ≤ c' ∧ RingL w' a' (l.map ornR) bs') ∧ Fresh w w' bs' ∧ Bel w w' := by
  obtain ⟨i0, hi0, hz0, hz1, hz2⟩ := info_parts infoRg
  have Hn : Hid (l.length = n) := hn
  have hm40 : n ≤ 40 := by rw [← hn]; exact (rgsB_out hok).1
  have HR : Hid (∀ j (hj : j < l.length), l[j].row.length ≤ 2000 ∧ rwB l[j].row = true) := fun j hj => ⟨((rgsB_out hok).2 j hj).1, by
    simp only [rgsB, Bool.and_eq_true, List.all_eq_true] at hok
    exact hok.2 _ (List.getElem_mem hj)⟩
  clear hn hok
  go_enter Try.func25, Try.ntmps25
  go_wp2
  go_loopw [5, 7, 10] (fun o _ i wr => ∃ (k : Nat) (R : Nat → List Value) (f : Nat → List Nat), k ≤ n ∧ i = .int .i64 k ∧ Gr 2 RingV 32 w.heap.size wr o (orT l k) R f ∧ Bel w wr) (fun _ _ i _ => n - (intOf i).toNat)
  case atStart => exact ⟨0, _, _, Nat.zero_le _, rfl, Gr.nil 2 RingV 32 _ _, Bel.refl _⟩
  case round =>
    obtain ⟨k, R, f0, hk, rfl, hG, hBr⟩ := hrel
    obtain ⟨va, vc, rfl⟩ := own_shape hG.own
    have HLK : Hid ((orT l k).length = k) := orT_len (by rw [Hn.out]; exact hk)
    have HG : Hid (Gr 2 RingV 32 w.heap.size wr (.slice va (orT l k).length vc) (orT l k) R f0) := hG
    clear hG
    by_cases hlt : k < n
    · have hkl : k < l.length := by rw [Hn.out]; exact hlt
      obtain ⟨b, off, f, rfl, hb, hx⟩ := (hT.bel ringE hBr).out hkl
      obtain ⟨a0, k0, ml, c0, c1, t0⟩ := hx k hkl
      have HE : Hid (orT l (k + 1) = orT l k ++ [ornR l[k]]) := orT_succ hkl
      obtain ⟨hr1, hr2⟩ := HR.out k hkl
      obtain ⟨d, Hd⟩ : ∃ d, Hid (l[k] = d) := ⟨_, (rfl : l[k] = _)⟩
      rw [Hd.out] at HE ml c0 c1 t0 hr1 hr2
      have hlt' : (k : Int) < (n : Int) := by omega
      have t1 := t0.bel ptE (bel_alloc (Bel.refl wr) (.cells #[.slice a0 d.row.length k0, .bool d.inner] 32))
      have hV1 := bel_alloc (Bel.refl wr) (.cells #[.slice a0 d.row.length k0, .bool d.inner] 32)
      clear hx
      go_wp2_with fail
      refine (oriented_any _ _ _ _ d.row _ _ t1 rfl (by omega) hr2).mono ?_
      rintro e w4 ⟨a4, c4, b4, rfl, T4, F4, hb4⟩
      have h04 : Bel wr w4 := bel_step hV1 hb4
      have F04 : Fresh wr w4 b4 := F4.old hV1.out.size
      have HV : Hid (RingV w4 [.slice a4 d.row.length c4, .bool d.inner] (ornR d) b4) := (⟨by rw [ornR_len]; exact ml, a4, c4, by rw [ornR_len]; rfl, T4⟩ : RingV w4 _ (ornR d) b4)
      have hown2 := World.ownsRow.alloc (own_bel HG.out.own h04) (.cells #[.slice a4 d.row.length c4, .bool d.inner] 32)
      have hBa := bel_alloc (bel_step hBr h04) (.cells #[.slice a4 d.row.length c4, .bool d.inner] 32)
      have hB4 := bel_step hBr h04
      clear t0 t1 T4 F4 hb4 c0 c1 hV1
      go_wp2_with (first
        | (at_builtin; refine wpList_append_lies _ rfl _ _ 24 rfl w.heap.size 32 i0 (.agg #[.slice none 0 0, .bool false]) 2 32 Try.underlying24 hi0 hz0 hz1 hz2 rfl (by decide) _ _ _ rfl hown2 ⟨w4.heap.size, 0, none⟩ 1 1 [.slice a4 d.row.length c4, .bool d.inner] rfl rfl ?c1 ?c2 (by decide) ?c3 ?c4 ?c5 (w4.heap.size + 1) ?c6 ?_)
        | go_in)
      case c1 =>
        intro j u hj
        match j, hj with
        | 0, hj => simp at hj; subst hj; simp [Addr.add]
        | 1, hj => simp at hj; subst hj; simp [Addr.add]
      case c2 =>
        intro u hu
        simp at hu
        rcases hu with rfl | rfl <;> rfl
      case c3 => have := HLK.out; unfold maxLen; omega
      case c4 => have := HLK.out; omega
      case c5 => have := hB4.out.size; simp; omega
      case c6 => simp
      intro g cap w5 hown' hgrow hat _
      have HG5 : Hid (∃ R' f', Gr 2 RingV 32 w.heap.size w5 (.slice (some ⟨g, 0, none⟩) ((orT l k).length + 1) cap) (orT l (k + 1)) R' f') := by
        have hat' : (Value.slice va (orT l k).length vc).ownBlock = some g ∨ g = (w4.alloc (.cells #[.slice a4 d.row.length c4, .bool d.inner] 32)).heap.size := by simpa using hat
        have := Gr.add ringV HG.out h04 (bel_alloc (Bel.refl w4) (.cells #[.slice a4 d.row.length c4, .bool d.inner] 32)) HV.out F04 hBr.out.size hown' hgrow (hatO hat')
        rw [HE.out]
        exact ⟨_, _, this⟩
      have hB5 : Bel w w5 := bel_grow hBa hgrow (fun j e => (hown2.lt j e).1)
      clear hown' hgrow hown2 hBa HG hat HV F04 h04 hB4
      go_wp2
      go_roundw
      case rel =>
        obtain ⟨R', f', G'⟩ := HG5.out
        exact ⟨k + 1, R', f', by omega, by go_num, G', hB5⟩
      case measure => simp [intOf]; omega
    · have e : n = k := by omega
      subst e
      have HO := Gr.out ringV HG.out
      have hcap : n ≤ vc := by
        have h := HG.out.own
        rw [HLK.out] at h
        rcases h.2 with ⟨e1, e2⟩ | ⟨g, cap, cur, e1, _, _, e2, _⟩
        · omega
        · injection e1 with _ _ e3; omega
      have HT : Hid (orT l n = l.map ornR) := by rw [← Hn.out]; exact orT_all l
      rw [HLK.out]
      obtain ⟨a', c', bs', e', hS, hM⟩ := HO
      rw [HLK.out] at e'
      obtain ⟨rfl, rfl⟩ : va = a' ∧ vc = c' := by simpa using e'
      have HS : Hid (∃ a' c', Value.slice va n vc = .slice a' n c' ∧ n ≤ c' ∧ RingL wr a' (l.map ornR) bs') := ⟨va, vc, rfl, hcap, by rw [← HT.out]; exact hS⟩
      have hF := hM.fresh (w := w) (Nat.le_refl _)
      clear hS e' HG hM
      go_wp2
      go_ret
      exact ⟨_, bs', rfl, HS.out, hF, hBr⟩

theorem orientc_any (a : Option Addr) (n c : Nat) (l : List RingD) (bs : List Nat) (w : World) (hT : RingL w a l bs) (hn : l.length = n) (hm : n ≤ 1048576) (hs : ∀ i (h : i < l.length), l[i].row.length ≤ 1048576) :
    Calls Try.prog 15 #[.slice a n c] w fun e w' => ∃ v' bs', e = .returned v' ∧ (∃ a' c', v' = .slice a' (ornQ l).length c' ∧ (ornQ l).length ≤ c' ∧ RingL w' a' (ornQ l) bs') ∧ Fresh w w' bs' ∧ Bel w w' := by
  cases hok : rgsB l
  · have HQ : Hid (ornQ l = []) := (by unfold ornQ; rw [hok]; rfl : ornQ l = [])
    rw [HQ.out]
    go_enter Try.func15, Try.ntmps15
    go_wp2_with fail
    refine (ringsOk_any _ _ _ l bs _ hT hn hm hs).mono ?_
    rintro e w1 ⟨rfl, hb1⟩
    rw [hok]
    have HA : Hid (∃ a' c', Value.slice none 0 0 = .slice a' ([] : List RingD).length c' ∧ ([] : List RingD).length ≤ c' ∧ RingL w1 a' [] []) := ⟨none, 0, rfl, Nat.le_refl _, Sl.nil⟩
    go_wp2
    go_ret
    exact ⟨_, [], rfl, HA.out, Fresh.nil _ _, hb1⟩
  · have HQ : Hid (ornQ l = l.map ornR) := (by unfold ornQ; rw [hok]; rfl : ornQ l = l.map ornR)
    have HL : Hid ((l.map ornR).length = n) := (by rw [List.length_map]; exact hn : (l.map ornR).length = n)
    rw [HQ.out, HL.out]
    go_enter Try.func15, Try.ntmps15
    go_wp2_with fail
    refine (ringsOk_any _ _ _ l bs _ hT hn hm hs).mono ?_
    rintro e w1 ⟨rfl, hb1⟩
    rw [hok]
    go_wp2_with fail
    refine (eachRc_any _ _ _ l bs _ (hT.bel ringE hb1) hn hok).mono ?_
    rintro e w2 ⟨v2, b2, rfl, V2, F2, hb2⟩
    have HV2 : Hid _ := V2
    have F2' : Fresh w w2 b2 := F2.old hb1.out.size
    clear V2 F2
    go_wp2
    go_ret
    exact ⟨_, b2, rfl, HV2.out, F2', bel_step hb1 hb2⟩
end Go.Proofs.Ytkpgcnfokohhiaa

namespace Go.Proofs.Ytkpgcnfokohhiaa
open Go.RowKit

def nsC (m : Nat) (l : List RingD) (i j : Nat) : Nat := if m = 0 then 0 else nsT l i j
theorem nsC_zero (m : Nat) (l : List RingD) (i : Nat) : nsC m l i 0 = 0 := by unfold nsC; split <;> rfl
theorem nsC_le (m : Nat) (l : List RingD) (i j : Nat) : nsC m l i j ≤ j := by unfold nsC; split; (· omega); (· exact nsT_le l i j)
theorem nsC_same (m : Nat) (l : List RingD) (i : Nat) : nsC m l i (i + 1) = nsC m l i i := by
  unfold nsC
  split
  · rfl
  · show nsT l i i + (inK l i i).toNat = _
    rw [inK_same]; rfl
theorem nsC_emp (l : List RingD) (i j : Nat) : nsC 0 l i j = 0 := rfl
theorem nsC_step {m : Nat} {l : List RingD} {i j : Nat} {z : Int} (hm : m ≠ 0) (hi : i < l.length) (hj : j < l.length) (hne : j ≠ i) (hz : insR [l[j]] (lx l[i].row 0) (ly l[i].row 0) = z) : nsC m l i (j + 1) = nsC m l i j + (decide (z = 1)).toNat := by
  unfold nsC
  rw [if_neg hm, if_neg hm]
  show nsT l i j + (inK l i j).toNat = _
  rw [inK_at hi hj hne, hz]
theorem nsC_end {l : List RingD} {i : Nat} (hi : i < l.length) : nsC l[i].row.length l i l.length = nst l i := by
  unfold nsC
  by_cases h : l[i].row.length = 0
  · rw [if_pos h, nst_zero hi h]
  · rw [if_neg h, nst_some hi h]
theorem nstQ_lit : nstQ [⟨[], false⟩] = [0] := by decide
theorem nstQ_at {l : List RingD} (hr : rgsB l = true) {i : Nat} (hi : i < (nstQ l).length) : (nstQ l)[i] = (nst l i : Int) := by
  have e : nstQ l = nstTo l l.length := by unfold nstQ; rw [hr]; rfl
  simp only [e, nstTo, List.getElem_map, List.getElem_range]
theorem nstQ_full {l : List RingD} (hr : rgsB l = true) : (nstQ l).length = l.length := by
  have e : nstQ l = nstTo l l.length := by unfold nstQ; rw [hr]; rfl
  rw [e, nstTo_len]
theorem nstQ_none {l : List RingD} (hr : rgsB l = false) : nstQ l = [] := by unfold nstQ; rw [hr]; rfl
theorem rows_bad {l : List RingD} (hr : rgsB l = false) (h : l.length ≤ 40) : (l.all fun r => rwB r.row) = false := by
  unfold rgsB at hr
  rw [Bool.and_eq_false_iff] at hr
  rcases hr with h1 | h1
  · simp only [decide_eq_false_iff_not] at h1; exact absurd h h1
  · exact h1
theorem emp_ring (w : World) : RingL (w.alloc (.cells #[.slice none 0 0, .bool false] 32)) (some ⟨w.heap.size, 0, none⟩) [⟨[], false⟩] [w.heap.size] := by
  have XB : Blk (w.alloc (.cells #[.slice none 0 0, .bool false] 32)) w.heap.size [.slice none 0 0, .bool false] := Blk.new w [.slice none 0 0, .bool false] _
  refine .inr ⟨w.heap.size, 0, fun _ => [], rfl, XB.lt, rfl, fun i hi => ?_⟩
  obtain rfl : i = 0 := by simp at hi; exact hi
  exact ⟨none, 0, Nat.zero_le _, XB.cell 0 (by simp), XB.cell 1 (by simp), .inl ⟨rfl, rfl⟩⟩

set_option maxRecDepth 100000 in
set_option maxHeartbeats 4000000 in
theorem lawFnNests_any (a : Option Addr) (n0 c0 : Nat) (w : World) (hS : Bts w a n0) (_hm : n0 ≤ 9223372036854775807) :
    Calls Try.prog 4 #[.slice a n0 c0] w fun e w' => e = .returned (.bool true) ∧ Bel w w' := by
  by_cases hn0 : n0 ≤ 1048576
  rotate_left
  · have hbig : decide (1048576 < (n0 : Int)) = true := by simp; omega
    go_enter Try.func4, Try.ntmps4
    go_wp2_with fail
    refine (big_any a n0 c0 w).mono ?_
    rintro e w' ⟨rfl, rfl⟩
    rw [hbig]
    go_wp2
    go_ret
    exact ⟨rfl, Bel.refl _⟩
  have hbig : decide (1048576 < (n0 : Int)) = false := by simp; omega
  go_enter Try.func4, Try.ntmps4
  go_wp2_with fail
  refine (big_any a n0 c0 w).mono ?_
  rintro e w' ⟨rfl, hw⟩
  have hw := hw.symm
  subst hw
  rw [hbig]
  go_wp2_with fail
  refine (drawNesting_any a n0 c0 w hS hn0).mono ?_
  rintro e w1 ⟨v, l, rfl, hl45, hG, hB1⟩
  obtain ⟨va, vc, bs, rfl, hcap, hR, _, hrow⟩ := hG.read
  obtain ⟨n, HLn⟩ : ∃ q, Hid (l.length = q) := ⟨_, (rfl : l.length = _)⟩
  rw [HLn.out] at hcap hl45 ⊢
  have HRow : Hid (∀ i (h : i < l.length), l[i].row.length ≤ 2001) := hrow
  have HRw : Hid (∀ i (h : i < l.length), l[i].row.length ≤ 1048576) := fun i h => Nat.le_trans (hrow i h) (by decide)
  clear hG hrow
  go_wp2_with fail
  refine (nesting_any va n vc l bs w1 hR HLn.out hcap (by omega) HRw.out).mono ?_
  rintro e w2 ⟨v2, rfl, hO2, hb2⟩
  obtain ⟨a2, c2, b2, rfl, hI2, _, _⟩ := hO2
  obtain ⟨q, Hq⟩ : ∃ q, Hid ((nstQ l).length = q) := ⟨_, (rfl : (nstQ l).length = _)⟩
  rw [Hq.out]
  have hq : q ≤ 45 := by rw [← Hq.out]; exact Nat.le_trans (nstQ_len l) (by rw [HLn.out]; exact hl45)
  obtain ⟨U, HU⟩ : ∃ U, Hid (U = w2.alloc (.cells #[.slice none 0 0, .bool false] 32)) := ⟨_, (rfl : w2.alloc (.cells #[.slice none 0 0, .bool false] 32) = _)⟩
  have hbU : Bel w2 U := by rw [HU.out]; exact bel_alloc (Bel.refl _) _
  have hLit : RingL U (some ⟨w2.heap.size, 0, none⟩) [⟨[], false⟩] [w2.heap.size] := by rw [HU.out]; exact emp_ring w2
  go_wp2_with fail
  rw [← HU.out]
  refine (nesting_any _ 1 1 [⟨[], false⟩] _ U hLit rfl (by decide) (by decide) (one_small (by simp))).mono ?_
  rintro e w3 ⟨v3, rfl, hO3, hb3⟩
  rw [nstQ_lit] at hO3
  obtain ⟨a3, c3, b3, rfl, _, _, _⟩ := hO3
  have hB3 : Bel w1 w3 := bel_step hb2 (bel_step hbU hb3)
  have HB3 : Hid (Bel w w3) := bel_step hB1 hB3
  have HR3 : Hid (RingL w3 va l bs) := hR.bel ringE hB3
  have HI3 : Hid (Ints w3 a2 (nstQ l) b2) := hI2.bel intE (bel_step hbU hb3)
  clear hLit hR hI2 hb2 hbU hb3 hB3
  cases hrg : rgsB l
  · have hq0 : q = 0 := by rw [← Hq.out, nstQ_none hrg]; rfl
    subst hq0
    have HRG : Hid (rgsB l = false) := hrg
    by_cases hn00 : n = 0
    · subst hn00
      go_wp2
      go_ret
      exact ⟨rfl, HB3.out⟩
    have hnz : ((n : Int) == 0) = false := by simp only [beq_eq_false_iff_ne]; omega
    by_cases h40 : (40 : Int) < (n : Int)
    · have h40b : decide ((40 : Int) < (n : Int)) = true := by simp only [h40, decide_true]
      go_wp2
      go_ret
      exact ⟨rfl, HB3.out⟩
    have h40b : decide ((40 : Int) < (n : Int)) = false := by simp only [h40, decide_false]
    have HRB : Hid ((l.all fun r => rwB r.row) = false) := rows_bad hrg (by rw [HLn.out]; omega)
    clear hrg
    go_wp2_with fail
    refine (lawRowsOk_any va n vc l bs w3 HR3.out HLn.out (by omega) HRow.out).mono ?_
    rintro e w4 ⟨rfl, hb4⟩
    rw [HRB.out]
    go_wp2
    go_ret
    exact ⟨rfl, bel_step HB3.out hb4⟩
  have HRG : Hid (rgsB l = true) := hrg
  have hqn : q = n := by rw [← Hq.out, nstQ_full hrg, HLn.out]
  subst hqn
  clear hrg
  by_cases hq0 : q = 0
  · subst hq0
    go_wp2
    go_ret
    exact ⟨rfl, HB3.out⟩
  have hqz : ((q : Int) == 0) = false := by simp only [beq_eq_false_iff_ne]; omega
  go_wp2
  go_loopw [5, 6, 7] (fun ix _ _ wr => ∃ i : Nat, i ≤ q ∧ ix = .int .i64 i ∧ Bel w3 wr) (fun ix _ _ _ => q - (intOf ix).toNat)
  case atStart => exact ⟨0, Nat.zero_le _, rfl, Bel.refl _⟩
  case round =>
    obtain ⟨i, hi, rfl, hBo⟩ := hrel
    obtain ⟨wo, ho⟩ : ∃ V, V = wr := ⟨_, rfl⟩
    subst ho
    by_cases hlt : i < q
    · have hil : i < l.length := by rw [HLn.out]; exact hlt
      have hlt' : (i : Int) < (q : Int) := by omega
      obtain ⟨d, Hd⟩ : ∃ d, Hid (l[i] = d) := ⟨_, (rfl : l[i] = _)⟩
      obtain ⟨m, Hm⟩ : ∃ x, Hid (d.row.length = x) := ⟨_, (rfl : d.row.length = _)⟩
      have hm1 : m ≤ 2001 := by rw [← Hm.out, ← Hd.out]; exact HRow.out i hil
      go_wp2
      go_loopw [6, 7] (fun kx jx wr => ∃ j : Nat, j ≤ q ∧ jx = .int .i64 j ∧ kx = .int .i64 (nsC m l i j : Nat) ∧ Bel w3 wr) (fun _ jx _ => q - (intOf jx).toNat)
      case atStart => exact ⟨0, Nat.zero_le _, rfl, by rw [nsC_zero]; rfl, hBo⟩
      case round =>
        obtain ⟨j, hj, rfl, rfl, hBr⟩ := hrel
        by_cases hjt : j < q
        · have hjl : j < l.length := by rw [HLn.out]; exact hjt
          have hjt' : (j : Int) < (q : Int) := by omega
          have g0 : Bel wr wr := Bel.refl _
          obtain ⟨N, HNn⟩ : ∃ x, Hid (nsC m l i j = x) := ⟨_, (rfl : nsC m l i j = _)⟩
          have hN : N ≤ 45 := by rw [← HNn.out]; exact Nat.le_trans (nsC_le m l i j) (by omega)
          rw [HNn.out]
          by_cases hji : j = i
          · subst hji
            have HE : Hid (nsC m l j (j + 1) = N) := (by rw [nsC_same, HNn.out] : nsC m l j (j + 1) = N)
            have hbn : ((j : Int) != (j : Int)) = false := by simp
            go_upto_region 16 with fail
            refine wp_region_noPanic ?_
            refine wp_region_held_drew (S := fun w' => Bel wr w') (by kernel_rfl) (Bel.drew g0) (fun hHeld => ?_)
            refine wpAnyH_take (i := 0) (oi := { dst := some 47, op := Go.Op.move (Go.Operand.tmp 7), type := 3, pos := "laws.go:1652", after := #[], guard := none }) (v := ?vab0) rfl (by kernel_rfl) (by kernel_rfl) (by kernel_rfl) (fun _ _ _ h => h) (Or.inl ⟨by rfl, ?hab0⟩) hHeld ?rab0
            case hab0 => (intro w hSw; (try dsimp only at hSw); go_simp; try with_reducible rfl)
            try simp only [Act.put, List.setIfInBounds_toArray, List.set_cons_zero, List.set_cons_succ]
            refine wpAnyH_take (i := 1) (oi := { dst := some 48, op := Go.Op.move (Go.Operand.tmp 5), type := 3, pos := "laws.go:1652", after := #[], guard := none }) (v := ?vab1) rfl (by kernel_rfl) (by kernel_rfl) (by kernel_rfl) (fun _ _ _ h => h) (Or.inl ⟨by rfl, ?hab1⟩) hHeld ?rab1
            case hab1 => (intro w hSw; (try dsimp only at hSw); go_simp; try with_reducible rfl)
            try simp only [Act.put, List.setIfInBounds_toArray, List.set_cons_zero, List.set_cons_succ]
            refine wpAnyH_take (i := 2) (oi := { dst := some 49, op := Go.Op.binOp Go.BinOp.neq 3 (Go.Operand.tmp 47) (Go.Operand.tmp 48) 3, type := 4, pos := "laws.go:1652", after := #[{ on := 0, ground := Go.Ground.data }, { on := 1, ground := Go.Ground.data }], guard := none }) (v := ?vab2) rfl (by kernel_rfl) (by kernel_rfl) (by kernel_rfl) (fun _ _ _ h => h) (Or.inl ⟨by rfl, ?hab2⟩) hHeld ?rab2
            case hab2 => (intro w hSw; (try dsimp only at hSw); go_simp; try with_reducible rfl)
            try simp only [Act.put, List.setIfInBounds_toArray, List.set_cons_zero, List.set_cons_succ]
            refine wpAnyH_take (i := 3) (oi := { dst := some 50, op := Go.Op.move (Go.Operand.tmp 49), type := 4, pos := "laws.go:1652", after := #[{ on := 2, ground := Go.Ground.data }], guard := none }) (v := ?vab3) rfl (by kernel_rfl) (by kernel_rfl) (by kernel_rfl) (fun _ _ _ h => h) (Or.inl ⟨by rfl, ?hab3⟩) hHeld ?rab3
            case hab3 => (intro w hSw; (try dsimp only at hSw); go_simp; try with_reducible rfl)
            try simp only [Act.put, List.setIfInBounds_toArray, List.set_cons_zero, List.set_cons_succ]
            refine wpAnyH_take (i := 4) (oi := { dst := some 51, op := Go.Op.move (Go.Operand.tmp 3), type := 24, pos := "laws.go:1652", after := #[{ on := 3, ground := Go.Ground.guard }], guard := some (3, true) }) (v := undef) rfl (by kernel_rfl) (by kernel_rfl) (by kernel_rfl) (fun _ _ _ h => h) (Or.inr ⟨by rfl, rfl⟩) hHeld ?_
            try simp only [Act.put, List.setIfInBounds_toArray, List.set_cons_zero, List.set_cons_succ]
            refine wpAnyH_take (i := 5) (oi := { dst := some 52, op := Go.Op.move (Go.Operand.tmp 5), type := 3, pos := "laws.go:1652", after := #[{ on := 3, ground := Go.Ground.guard }], guard := some (3, true) }) (v := undef) rfl (by kernel_rfl) (by kernel_rfl) (by kernel_rfl) (fun _ _ _ h => h) (Or.inr ⟨by rfl, rfl⟩) hHeld ?_
            try simp only [Act.put, List.setIfInBounds_toArray, List.set_cons_zero, List.set_cons_succ]
            refine wpAnyH_take (i := 6) (oi := { dst := some 53, op := Go.Op.indexAddr 24 (Go.Operand.tmp 51) (Go.Operand.tmp 52), type := 0, pos := "laws.go:1652", after := #[{ on := 4, ground := Go.Ground.data }, { on := 5, ground := Go.Ground.data }, { on := 3, ground := Go.Ground.guard }], guard := some (3, true) }) (v := undef) rfl (by kernel_rfl) (by kernel_rfl) (by kernel_rfl) (fun _ _ _ h => h) (Or.inr ⟨by rfl, rfl⟩) hHeld ?_
            try simp only [Act.put, List.setIfInBounds_toArray, List.set_cons_zero, List.set_cons_succ]
            refine wpAnyH_take (i := 7) (oi := { dst := some 54, op := Go.Op.fieldAddr 32 (Go.Operand.tmp 53) 0, type := 0, pos := "laws.go:1652", after := #[{ on := 6, ground := Go.Ground.data }, { on := 3, ground := Go.Ground.guard }], guard := some (3, true) }) (v := undef) rfl (by kernel_rfl) (by kernel_rfl) (by kernel_rfl) (fun _ _ _ h => h) (Or.inr ⟨by rfl, rfl⟩) hHeld ?_
            try simp only [Act.put, List.setIfInBounds_toArray, List.set_cons_zero, List.set_cons_succ]
            refine wpAnyH_take (i := 8) (oi := { dst := some 55, op := Go.Op.load 30 (Go.Operand.tmp 54), type := 30, pos := "laws.go:1652", after := #[{ on := 7, ground := Go.Ground.data }, { on := 3, ground := Go.Ground.guard }], guard := some (3, true) }) (v := undef) rfl (by kernel_rfl) (by kernel_rfl) (by kernel_rfl) (fun _ _ _ h => h) (Or.inr ⟨by rfl, rfl⟩) hHeld ?_
            try simp only [Act.put, List.setIfInBounds_toArray, List.set_cons_zero, List.set_cons_succ]
            refine wpAnyH_take (i := 9) (oi := { dst := some 56, op := Go.Op.call { callee := Go.Callee.builtin Go.Builtin.len, args := #[Go.Operand.tmp 55], argTypes := #[30] }, type := 3, pos := "laws.go:1652", after := #[{ on := 8, ground := Go.Ground.data }, { on := 3, ground := Go.Ground.guard }], guard := some (3, true) }) (v := undef) rfl (by kernel_rfl) (by kernel_rfl) (by kernel_rfl) (fun _ _ _ h => h) (Or.inr ⟨by rfl, rfl⟩) hHeld ?_
            try simp only [Act.put, List.setIfInBounds_toArray, List.set_cons_zero, List.set_cons_succ]
            refine wpAnyH_take (i := 10) (oi := { dst := some 57, op := Go.Op.binOp Go.BinOp.gtr 3 (Go.Operand.tmp 56) (Go.Operand.const (Go.Value.int Go.IntKind.i64 0)) 3, type := 4, pos := "laws.go:1652", after := #[{ on := 9, ground := Go.Ground.data }, { on := 3, ground := Go.Ground.guard }], guard := some (3, true) }) (v := undef) rfl (by kernel_rfl) (by kernel_rfl) (by kernel_rfl) (fun _ _ _ h => h) (Or.inr ⟨by rfl, rfl⟩) hHeld ?_
            try simp only [Act.put, List.setIfInBounds_toArray, List.set_cons_zero, List.set_cons_succ]
            refine wpAnyH_take (i := 11) (oi := { dst := some 58, op := Go.Op.pick (Go.Operand.tmp 50) (Go.Operand.tmp 57) (Go.Operand.const (Go.Value.bool false)), type := 4, pos := "laws.go:1652", after := #[{ on := 3, ground := Go.Ground.data }, { on := 10, ground := Go.Ground.data }], guard := none }) (v := ?vab11) rfl (by kernel_rfl) (by kernel_rfl) (by kernel_rfl) (fun _ _ _ h => h) (Or.inl ⟨by rfl, ?hab11⟩) hHeld ?rab11
            case hab11 => (intro w hSw; (try dsimp only at hSw); go_simp; try with_reducible rfl)
            try simp only [Act.put, List.setIfInBounds_toArray, List.set_cons_zero, List.set_cons_succ]
            refine wpAnyH_take (i := 12) (oi := { dst := some 59, op := Go.Op.move (Go.Operand.tmp 58), type := 4, pos := "laws.go:1652", after := #[{ on := 11, ground := Go.Ground.data }, { on := 3, ground := Go.Ground.chain }], guard := none }) (v := ?vab12) rfl (by kernel_rfl) (by kernel_rfl) (by kernel_rfl) (fun _ _ _ h => h) (Or.inl ⟨by rfl, ?hab12⟩) hHeld ?rab12
            case hab12 => (intro w hSw; (try dsimp only at hSw); go_simp; try with_reducible rfl)
            try simp only [Act.put, List.setIfInBounds_toArray, List.set_cons_zero, List.set_cons_succ]
            refine wpAnyH_take (i := 13) (oi := { dst := some 60, op := Go.Op.move (Go.Operand.tmp 3), type := 24, pos := "laws.go:1652", after := #[{ on := 12, ground := Go.Ground.guard }], guard := some (12, true) }) (v := undef) rfl (by kernel_rfl) (by kernel_rfl) (by kernel_rfl) (fun _ _ _ h => h) (Or.inr ⟨by rfl, rfl⟩) hHeld ?_
            try simp only [Act.put, List.setIfInBounds_toArray, List.set_cons_zero, List.set_cons_succ]
            refine wpAnyH_take (i := 14) (oi := { dst := some 61, op := Go.Op.move (Go.Operand.tmp 7), type := 3, pos := "laws.go:1652", after := #[{ on := 12, ground := Go.Ground.guard }], guard := some (12, true) }) (v := undef) rfl (by kernel_rfl) (by kernel_rfl) (by kernel_rfl) (fun _ _ _ h => h) (Or.inr ⟨by rfl, rfl⟩) hHeld ?_
            try simp only [Act.put, List.setIfInBounds_toArray, List.set_cons_zero, List.set_cons_succ]
            refine wpAnyH_take (i := 15) (oi := { dst := some 62, op := Go.Op.move (Go.Operand.tmp 7), type := 3, pos := "laws.go:1652", after := #[{ on := 12, ground := Go.Ground.guard }], guard := some (12, true) }) (v := undef) rfl (by kernel_rfl) (by kernel_rfl) (by kernel_rfl) (fun _ _ _ h => h) (Or.inr ⟨by rfl, rfl⟩) hHeld ?_
            try simp only [Act.put, List.setIfInBounds_toArray, List.set_cons_zero, List.set_cons_succ]
            refine wpAnyH_take (i := 16) (oi := { dst := some 63, op := Go.Op.binOp Go.BinOp.add 3 (Go.Operand.tmp 62) (Go.Operand.const (Go.Value.int Go.IntKind.i64 1)) 3, type := 3, pos := "laws.go:1652", after := #[{ on := 15, ground := Go.Ground.data }, { on := 12, ground := Go.Ground.guard }], guard := some (12, true) }) (v := undef) rfl (by kernel_rfl) (by kernel_rfl) (by kernel_rfl) (fun _ _ _ h => h) (Or.inr ⟨by rfl, rfl⟩) hHeld ?_
            try simp only [Act.put, List.setIfInBounds_toArray, List.set_cons_zero, List.set_cons_succ]
            refine wpAnyH_take (i := 17) (oi := { dst := some 64, op := Go.Op.slice 24 (Go.Operand.tmp 60) (some (Go.Operand.tmp 61)) (some (Go.Operand.tmp 63)) none, type := 24, pos := "laws.go:1652", after := #[{ on := 13, ground := Go.Ground.data }, { on := 14, ground := Go.Ground.data }, { on := 16, ground := Go.Ground.data }, { on := 12, ground := Go.Ground.guard }], guard := some (12, true) }) (v := undef) rfl (by kernel_rfl) (by kernel_rfl) (by kernel_rfl) (fun _ _ _ h => h) (Or.inr ⟨by rfl, rfl⟩) hHeld ?_
            try simp only [Act.put, List.setIfInBounds_toArray, List.set_cons_zero, List.set_cons_succ]
            refine wpAnyH_take (i := 18) (oi := { dst := some 65, op := Go.Op.move (Go.Operand.tmp 3), type := 24, pos := "laws.go:1652", after := #[{ on := 12, ground := Go.Ground.guard }], guard := some (12, true) }) (v := undef) rfl (by kernel_rfl) (by kernel_rfl) (by kernel_rfl) (fun _ _ _ h => h) (Or.inr ⟨by rfl, rfl⟩) hHeld ?_
            try simp only [Act.put, List.setIfInBounds_toArray, List.set_cons_zero, List.set_cons_succ]
            refine wpAnyH_take (i := 19) (oi := { dst := some 66, op := Go.Op.move (Go.Operand.tmp 5), type := 3, pos := "laws.go:1652", after := #[{ on := 12, ground := Go.Ground.guard }], guard := some (12, true) }) (v := undef) rfl (by kernel_rfl) (by kernel_rfl) (by kernel_rfl) (fun _ _ _ h => h) (Or.inr ⟨by rfl, rfl⟩) hHeld ?_
            try simp only [Act.put, List.setIfInBounds_toArray, List.set_cons_zero, List.set_cons_succ]
            refine wpAnyH_take (i := 20) (oi := { dst := some 67, op := Go.Op.indexAddr 24 (Go.Operand.tmp 65) (Go.Operand.tmp 66), type := 0, pos := "laws.go:1652", after := #[{ on := 18, ground := Go.Ground.data }, { on := 19, ground := Go.Ground.data }, { on := 12, ground := Go.Ground.guard }], guard := some (12, true) }) (v := undef) rfl (by kernel_rfl) (by kernel_rfl) (by kernel_rfl) (fun _ _ _ h => h) (Or.inr ⟨by rfl, rfl⟩) hHeld ?_
            try simp only [Act.put, List.setIfInBounds_toArray, List.set_cons_zero, List.set_cons_succ]
            refine wpAnyH_take (i := 21) (oi := { dst := some 68, op := Go.Op.fieldAddr 32 (Go.Operand.tmp 67) 0, type := 0, pos := "laws.go:1652", after := #[{ on := 20, ground := Go.Ground.data }, { on := 12, ground := Go.Ground.guard }], guard := some (12, true) }) (v := undef) rfl (by kernel_rfl) (by kernel_rfl) (by kernel_rfl) (fun _ _ _ h => h) (Or.inr ⟨by rfl, rfl⟩) hHeld ?_
            try simp only [Act.put, List.setIfInBounds_toArray, List.set_cons_zero, List.set_cons_succ]
            refine wpAnyH_take (i := 22) (oi := { dst := some 69, op := Go.Op.load 30 (Go.Operand.tmp 68), type := 30, pos := "laws.go:1652", after := #[{ on := 21, ground := Go.Ground.data }, { on := 12, ground := Go.Ground.guard }], guard := some (12, true) }) (v := undef) rfl (by kernel_rfl) (by kernel_rfl) (by kernel_rfl) (fun _ _ _ h => h) (Or.inr ⟨by rfl, rfl⟩) hHeld ?_
            try simp only [Act.put, List.setIfInBounds_toArray, List.set_cons_zero, List.set_cons_succ]
            refine wpAnyH_take (i := 23) (oi := { dst := some 70, op := Go.Op.indexAddr 30 (Go.Operand.tmp 69) (Go.Operand.const (Go.Value.int Go.IntKind.i64 0)), type := 0, pos := "laws.go:1652", after := #[{ on := 22, ground := Go.Ground.data }, { on := 12, ground := Go.Ground.guard }], guard := some (12, true) }) (v := undef) rfl (by kernel_rfl) (by kernel_rfl) (by kernel_rfl) (fun _ _ _ h => h) (Or.inr ⟨by rfl, rfl⟩) hHeld ?_
            try simp only [Act.put, List.setIfInBounds_toArray, List.set_cons_zero, List.set_cons_succ]
            refine wpAnyH_take (i := 24) (oi := { dst := some 71, op := Go.Op.load 26 (Go.Operand.tmp 70), type := 26, pos := "laws.go:1652", after := #[{ on := 23, ground := Go.Ground.data }, { on := 12, ground := Go.Ground.guard }], guard := some (12, true) }) (v := undef) rfl (by kernel_rfl) (by kernel_rfl) (by kernel_rfl) (fun _ _ _ h => h) (Or.inr ⟨by rfl, rfl⟩) hHeld ?_
            try simp only [Act.put, List.setIfInBounds_toArray, List.set_cons_zero, List.set_cons_succ]
            refine wpAnyH_take (i := 25) (oi := { dst := some 72, op := Go.Op.call { callee := Go.Callee.value (Go.Operand.func 7), args := #[Go.Operand.tmp 64, Go.Operand.tmp 71], argTypes := #[24, 26] }, type := 2, pos := "laws.go:1652", after := #[{ on := 17, ground := Go.Ground.data }, { on := 24, ground := Go.Ground.data }, { on := 12, ground := Go.Ground.chain }, { on := 12, ground := Go.Ground.guard }], guard := some (12, true) }) (v := undef) rfl (by kernel_rfl) (by kernel_rfl) (by kernel_rfl) (fun _ _ _ h => h) (Or.inr ⟨by rfl, rfl⟩) hHeld ?_
            try simp only [Act.put, List.setIfInBounds_toArray, List.set_cons_zero, List.set_cons_succ]
            refine wpAnyH_take (i := 26) (oi := { dst := some 73, op := Go.Op.binOp Go.BinOp.eql 2 (Go.Operand.tmp 72) (Go.Operand.const (Go.Value.int Go.IntKind.i64 1)) 2, type := 4, pos := "laws.go:1652", after := #[{ on := 25, ground := Go.Ground.data }, { on := 12, ground := Go.Ground.guard }], guard := some (12, true) }) (v := undef) rfl (by kernel_rfl) (by kernel_rfl) (by kernel_rfl) (fun _ _ _ h => h) (Or.inr ⟨by rfl, rfl⟩) hHeld ?_
            try simp only [Act.put, List.setIfInBounds_toArray, List.set_cons_zero, List.set_cons_succ]
            refine wpAnyH_take (i := 27) (oi := { dst := some 74, op := Go.Op.pick (Go.Operand.tmp 59) (Go.Operand.tmp 73) (Go.Operand.const (Go.Value.bool false)), type := 4, pos := "laws.go:1652", after := #[{ on := 12, ground := Go.Ground.data }, { on := 26, ground := Go.Ground.data }], guard := none }) (v := ?vab27) rfl (by kernel_rfl) (by kernel_rfl) (by kernel_rfl) (fun _ _ _ h => h) (Or.inl ⟨by rfl, ?hab27⟩) hHeld ?rab27
            case hab27 => (intro w hSw; (try dsimp only at hSw); go_simp; try with_reducible rfl)
            try simp only [Act.put, List.setIfInBounds_toArray, List.set_cons_zero, List.set_cons_succ]
            refine wpAnyH_done (by kernel_rfl) ?_ _
            refine NoPanic.normal ?_
            have hB9 := bel_step hBr hHeld
            go_wp2
            go_roundw
            case rel => exact ⟨j + 1, by omega, by go_num, by rw [HE.out], hB9⟩
            case measure => simp [intOf]; omega
          have hbn : ((j : Int) != (i : Int)) = true := by simp only [bne_iff_ne, ne_eq]; omega
          obtain ⟨rb, off, f, rfl, hb, hx⟩ := (HR3.out.bel ringE hBr).out hil
          have HX : Hid (∀ i (h : i < l.length), RingE wr rb (off + i * 2) l[i] (f i)) := hx
          obtain ⟨a', c', _, k0, _, hp⟩ := hx i hil
          rw [Hd.out] at k0 hp
          rw [Hm.out] at k0
          clear hx
          by_cases hm0 : m = 0
          · subst hm0
            have HE : Hid (nsC 0 l i (j + 1) = N) := (by rw [← HNn.out]; rfl : nsC 0 l i (j + 1) = N)
            have hk0 : ∀ w', Bel wr w' → w'.cell? ⟨rb, off + i * 2, none⟩ = some (.slice a' 0 c') := fun w' h => bel_cellM h hb k0
            clear k0
            go_upto_region 16 with fail
            refine wp_region_noPanic ?_
            refine wp_region_held_drew (S := fun w' => Bel wr w') (by kernel_rfl) (Bel.drew g0) (fun hHeld => ?_)
            refine wpAnyH_take (i := 0) (oi := { dst := some 47, op := Go.Op.move (Go.Operand.tmp 7), type := 3, pos := "laws.go:1652", after := #[], guard := none }) (v := ?vac0) rfl (by kernel_rfl) (by kernel_rfl) (by kernel_rfl) (fun _ _ _ h => h) (Or.inl ⟨by rfl, ?hac0⟩) hHeld ?rac0
            case hac0 => (intro w hSw; (try dsimp only at hSw); go_simp; try with_reducible rfl)
            try simp only [Act.put, List.setIfInBounds_toArray, List.set_cons_zero, List.set_cons_succ]
            refine wpAnyH_take (i := 1) (oi := { dst := some 48, op := Go.Op.move (Go.Operand.tmp 5), type := 3, pos := "laws.go:1652", after := #[], guard := none }) (v := ?vac1) rfl (by kernel_rfl) (by kernel_rfl) (by kernel_rfl) (fun _ _ _ h => h) (Or.inl ⟨by rfl, ?hac1⟩) hHeld ?rac1
            case hac1 => (intro w hSw; (try dsimp only at hSw); go_simp; try with_reducible rfl)
            try simp only [Act.put, List.setIfInBounds_toArray, List.set_cons_zero, List.set_cons_succ]
            refine wpAnyH_take (i := 2) (oi := { dst := some 49, op := Go.Op.binOp Go.BinOp.neq 3 (Go.Operand.tmp 47) (Go.Operand.tmp 48) 3, type := 4, pos := "laws.go:1652", after := #[{ on := 0, ground := Go.Ground.data }, { on := 1, ground := Go.Ground.data }], guard := none }) (v := ?vac2) rfl (by kernel_rfl) (by kernel_rfl) (by kernel_rfl) (fun _ _ _ h => h) (Or.inl ⟨by rfl, ?hac2⟩) hHeld ?rac2
            case hac2 => (intro w hSw; (try dsimp only at hSw); go_simp; try with_reducible rfl)
            try simp only [Act.put, List.setIfInBounds_toArray, List.set_cons_zero, List.set_cons_succ]
            refine wpAnyH_take (i := 3) (oi := { dst := some 50, op := Go.Op.move (Go.Operand.tmp 49), type := 4, pos := "laws.go:1652", after := #[{ on := 2, ground := Go.Ground.data }], guard := none }) (v := ?vac3) rfl (by kernel_rfl) (by kernel_rfl) (by kernel_rfl) (fun _ _ _ h => h) (Or.inl ⟨by rfl, ?hac3⟩) hHeld ?rac3
            case hac3 => (intro w hSw; (try dsimp only at hSw); go_simp; try with_reducible rfl)
            try simp only [Act.put, List.setIfInBounds_toArray, List.set_cons_zero, List.set_cons_succ]
            refine wpAnyH_take (i := 4) (oi := { dst := some 51, op := Go.Op.move (Go.Operand.tmp 3), type := 24, pos := "laws.go:1652", after := #[{ on := 3, ground := Go.Ground.guard }], guard := some (3, true) }) (v := ?vac4) rfl (by kernel_rfl) (by kernel_rfl) (by kernel_rfl) (fun _ _ _ h => h) (Or.inl ⟨by rfl, ?hac4⟩) hHeld ?rac4
            case hac4 => (intro w hSw; (try dsimp only at hSw); go_simp; try with_reducible rfl)
            try simp only [Act.put, List.setIfInBounds_toArray, List.set_cons_zero, List.set_cons_succ]
            refine wpAnyH_take (i := 5) (oi := { dst := some 52, op := Go.Op.move (Go.Operand.tmp 5), type := 3, pos := "laws.go:1652", after := #[{ on := 3, ground := Go.Ground.guard }], guard := some (3, true) }) (v := ?vac5) rfl (by kernel_rfl) (by kernel_rfl) (by kernel_rfl) (fun _ _ _ h => h) (Or.inl ⟨by rfl, ?hac5⟩) hHeld ?rac5
            case hac5 => (intro w hSw; (try dsimp only at hSw); go_simp; try with_reducible rfl)
            try simp only [Act.put, List.setIfInBounds_toArray, List.set_cons_zero, List.set_cons_succ]
            refine wpAnyH_take (i := 6) (oi := { dst := some 53, op := Go.Op.indexAddr 24 (Go.Operand.tmp 51) (Go.Operand.tmp 52), type := 0, pos := "laws.go:1652", after := #[{ on := 4, ground := Go.Ground.data }, { on := 5, ground := Go.Ground.data }, { on := 3, ground := Go.Ground.guard }], guard := some (3, true) }) (v := ?vac6) rfl (by kernel_rfl) (by kernel_rfl) (by kernel_rfl) (fun _ _ _ h => h) (Or.inl ⟨by rfl, ?hac6⟩) hHeld ?rac6
            case hac6 => (intro w hSw; (try dsimp only at hSw); go_simp; try with_reducible rfl)
            try simp only [Act.put, List.setIfInBounds_toArray, List.set_cons_zero, List.set_cons_succ]
            refine wpAnyH_take (i := 7) (oi := { dst := some 54, op := Go.Op.fieldAddr 32 (Go.Operand.tmp 53) 0, type := 0, pos := "laws.go:1652", after := #[{ on := 6, ground := Go.Ground.data }, { on := 3, ground := Go.Ground.guard }], guard := some (3, true) }) (v := ?vac7) rfl (by kernel_rfl) (by kernel_rfl) (by kernel_rfl) (fun _ _ _ h => h) (Or.inl ⟨by rfl, ?hac7⟩) hHeld ?rac7
            case hac7 => (intro w hSw; (try dsimp only at hSw); go_simp; try with_reducible rfl)
            try simp only [Act.put, List.setIfInBounds_toArray, List.set_cons_zero, List.set_cons_succ]
            refine wpAnyH_take (i := 8) (oi := { dst := some 55, op := Go.Op.load 30 (Go.Operand.tmp 54), type := 30, pos := "laws.go:1652", after := #[{ on := 7, ground := Go.Ground.data }, { on := 3, ground := Go.Ground.guard }], guard := some (3, true) }) (v := ?vac8) rfl (by kernel_rfl) (by kernel_rfl) (by kernel_rfl) (fun _ _ _ h => h) (Or.inl ⟨by rfl, ?hac8⟩) hHeld ?rac8
            case hac8 => (intro w hSw; (try dsimp only at hSw); go_simp; try with_reducible rfl)
            try simp only [Act.put, List.setIfInBounds_toArray, List.set_cons_zero, List.set_cons_succ]
            refine wpAnyH_take (i := 9) (oi := { dst := some 56, op := Go.Op.call { callee := Go.Callee.builtin Go.Builtin.len, args := #[Go.Operand.tmp 55], argTypes := #[30] }, type := 3, pos := "laws.go:1652", after := #[{ on := 8, ground := Go.Ground.data }, { on := 3, ground := Go.Ground.guard }], guard := some (3, true) }) (v := ?vac9) rfl (by kernel_rfl) (by kernel_rfl) (by kernel_rfl) (fun _ _ _ h => h) (Or.inl ⟨by rfl, ?hac9⟩) hHeld ?rac9
            case hac9 => (intro w hSw; (try dsimp only at hSw); go_simp; try with_reducible rfl)
            try simp only [Act.put, List.setIfInBounds_toArray, List.set_cons_zero, List.set_cons_succ]
            refine wpAnyH_take (i := 10) (oi := { dst := some 57, op := Go.Op.binOp Go.BinOp.gtr 3 (Go.Operand.tmp 56) (Go.Operand.const (Go.Value.int Go.IntKind.i64 0)) 3, type := 4, pos := "laws.go:1652", after := #[{ on := 9, ground := Go.Ground.data }, { on := 3, ground := Go.Ground.guard }], guard := some (3, true) }) (v := ?vac10) rfl (by kernel_rfl) (by kernel_rfl) (by kernel_rfl) (fun _ _ _ h => h) (Or.inl ⟨by rfl, ?hac10⟩) hHeld ?rac10
            case hac10 => (intro w hSw; (try dsimp only at hSw); go_simp; try with_reducible rfl)
            try simp only [Act.put, List.setIfInBounds_toArray, List.set_cons_zero, List.set_cons_succ]
            refine wpAnyH_take (i := 11) (oi := { dst := some 58, op := Go.Op.pick (Go.Operand.tmp 50) (Go.Operand.tmp 57) (Go.Operand.const (Go.Value.bool false)), type := 4, pos := "laws.go:1652", after := #[{ on := 3, ground := Go.Ground.data }, { on := 10, ground := Go.Ground.data }], guard := none }) (v := ?vac11) rfl (by kernel_rfl) (by kernel_rfl) (by kernel_rfl) (fun _ _ _ h => h) (Or.inl ⟨by rfl, ?hac11⟩) hHeld ?rac11
            case hac11 => (intro w hSw; (try dsimp only at hSw); go_simp; try with_reducible rfl)
            try simp only [Act.put, List.setIfInBounds_toArray, List.set_cons_zero, List.set_cons_succ]
            refine wpAnyH_take (i := 12) (oi := { dst := some 59, op := Go.Op.move (Go.Operand.tmp 58), type := 4, pos := "laws.go:1652", after := #[{ on := 11, ground := Go.Ground.data }, { on := 3, ground := Go.Ground.chain }], guard := none }) (v := ?vac12) rfl (by kernel_rfl) (by kernel_rfl) (by kernel_rfl) (fun _ _ _ h => h) (Or.inl ⟨by rfl, ?hac12⟩) hHeld ?rac12
            case hac12 => (intro w hSw; (try dsimp only at hSw); go_simp; try with_reducible rfl)
            try simp only [Act.put, List.setIfInBounds_toArray, List.set_cons_zero, List.set_cons_succ]
            refine wpAnyH_take (i := 13) (oi := { dst := some 60, op := Go.Op.move (Go.Operand.tmp 3), type := 24, pos := "laws.go:1652", after := #[{ on := 12, ground := Go.Ground.guard }], guard := some (12, true) }) (v := undef) rfl (by kernel_rfl) (by kernel_rfl) (by kernel_rfl) (fun _ _ _ h => h) (Or.inr ⟨by rfl, rfl⟩) hHeld ?_
            try simp only [Act.put, List.setIfInBounds_toArray, List.set_cons_zero, List.set_cons_succ]
            refine wpAnyH_take (i := 14) (oi := { dst := some 61, op := Go.Op.move (Go.Operand.tmp 7), type := 3, pos := "laws.go:1652", after := #[{ on := 12, ground := Go.Ground.guard }], guard := some (12, true) }) (v := undef) rfl (by kernel_rfl) (by kernel_rfl) (by kernel_rfl) (fun _ _ _ h => h) (Or.inr ⟨by rfl, rfl⟩) hHeld ?_
            try simp only [Act.put, List.setIfInBounds_toArray, List.set_cons_zero, List.set_cons_succ]
            refine wpAnyH_take (i := 15) (oi := { dst := some 62, op := Go.Op.move (Go.Operand.tmp 7), type := 3, pos := "laws.go:1652", after := #[{ on := 12, ground := Go.Ground.guard }], guard := some (12, true) }) (v := undef) rfl (by kernel_rfl) (by kernel_rfl) (by kernel_rfl) (fun _ _ _ h => h) (Or.inr ⟨by rfl, rfl⟩) hHeld ?_
            try simp only [Act.put, List.setIfInBounds_toArray, List.set_cons_zero, List.set_cons_succ]
            refine wpAnyH_take (i := 16) (oi := { dst := some 63, op := Go.Op.binOp Go.BinOp.add 3 (Go.Operand.tmp 62) (Go.Operand.const (Go.Value.int Go.IntKind.i64 1)) 3, type := 3, pos := "laws.go:1652", after := #[{ on := 15, ground := Go.Ground.data }, { on := 12, ground := Go.Ground.guard }], guard := some (12, true) }) (v := undef) rfl (by kernel_rfl) (by kernel_rfl) (by kernel_rfl) (fun _ _ _ h => h) (Or.inr ⟨by rfl, rfl⟩) hHeld ?_
            try simp only [Act.put, List.setIfInBounds_toArray, List.set_cons_zero, List.set_cons_succ]
            refine wpAnyH_take (i := 17) (oi := { dst := some 64, op := Go.Op.slice 24 (Go.Operand.tmp 60) (some (Go.Operand.tmp 61)) (some (Go.Operand.tmp 63)) none, type := 24, pos := "laws.go:1652", after := #[{ on := 13, ground := Go.Ground.data }, { on := 14, ground := Go.Ground.data }, { on := 16, ground := Go.Ground.data }, { on := 12, ground := Go.Ground.guard }], guard := some (12, true) }) (v := undef) rfl (by kernel_rfl) (by kernel_rfl) (by kernel_rfl) (fun _ _ _ h => h) (Or.inr ⟨by rfl, rfl⟩) hHeld ?_
            try simp only [Act.put, List.setIfInBounds_toArray, List.set_cons_zero, List.set_cons_succ]
            refine wpAnyH_take (i := 18) (oi := { dst := some 65, op := Go.Op.move (Go.Operand.tmp 3), type := 24, pos := "laws.go:1652", after := #[{ on := 12, ground := Go.Ground.guard }], guard := some (12, true) }) (v := undef) rfl (by kernel_rfl) (by kernel_rfl) (by kernel_rfl) (fun _ _ _ h => h) (Or.inr ⟨by rfl, rfl⟩) hHeld ?_
            try simp only [Act.put, List.setIfInBounds_toArray, List.set_cons_zero, List.set_cons_succ]
            refine wpAnyH_take (i := 19) (oi := { dst := some 66, op := Go.Op.move (Go.Operand.tmp 5), type := 3, pos := "laws.go:1652", after := #[{ on := 12, ground := Go.Ground.guard }], guard := some (12, true) }) (v := undef) rfl (by kernel_rfl) (by kernel_rfl) (by kernel_rfl) (fun _ _ _ h => h) (Or.inr ⟨by rfl, rfl⟩) hHeld ?_
            try simp only [Act.put, List.setIfInBounds_toArray, List.set_cons_zero, List.set_cons_succ]
            refine wpAnyH_take (i := 20) (oi := { dst := some 67, op := Go.Op.indexAddr 24 (Go.Operand.tmp 65) (Go.Operand.tmp 66), type := 0, pos := "laws.go:1652", after := #[{ on := 18, ground := Go.Ground.data }, { on := 19, ground := Go.Ground.data }, { on := 12, ground := Go.Ground.guard }], guard := some (12, true) }) (v := undef) rfl (by kernel_rfl) (by kernel_rfl) (by kernel_rfl) (fun _ _ _ h => h) (Or.inr ⟨by rfl, rfl⟩) hHeld ?_
            try simp only [Act.put, List.setIfInBounds_toArray, List.set_cons_zero, List.set_cons_succ]
            refine wpAnyH_take (i := 21) (oi := { dst := some 68, op := Go.Op.fieldAddr 32 (Go.Operand.tmp 67) 0, type := 0, pos := "laws.go:1652", after := #[{ on := 20, ground := Go.Ground.data }, { on := 12, ground := Go.Ground.guard }], guard := some (12, true) }) (v := undef) rfl (by kernel_rfl) (by kernel_rfl) (by kernel_rfl) (fun _ _ _ h => h) (Or.inr ⟨by rfl, rfl⟩) hHeld ?_
            try simp only [Act.put, List.setIfInBounds_toArray, List.set_cons_zero, List.set_cons_succ]
            refine wpAnyH_take (i := 22) (oi := { dst := some 69, op := Go.Op.load 30 (Go.Operand.tmp 68), type := 30, pos := "laws.go:1652", after := #[{ on := 21, ground := Go.Ground.data }, { on := 12, ground := Go.Ground.guard }], guard := some (12, true) }) (v := undef) rfl (by kernel_rfl) (by kernel_rfl) (by kernel_rfl) (fun _ _ _ h => h) (Or.inr ⟨by rfl, rfl⟩) hHeld ?_
            try simp only [Act.put, List.setIfInBounds_toArray, List.set_cons_zero, List.set_cons_succ]
            refine wpAnyH_take (i := 23) (oi := { dst := some 70, op := Go.Op.indexAddr 30 (Go.Operand.tmp 69) (Go.Operand.const (Go.Value.int Go.IntKind.i64 0)), type := 0, pos := "laws.go:1652", after := #[{ on := 22, ground := Go.Ground.data }, { on := 12, ground := Go.Ground.guard }], guard := some (12, true) }) (v := undef) rfl (by kernel_rfl) (by kernel_rfl) (by kernel_rfl) (fun _ _ _ h => h) (Or.inr ⟨by rfl, rfl⟩) hHeld ?_
            try simp only [Act.put, List.setIfInBounds_toArray, List.set_cons_zero, List.set_cons_succ]
            refine wpAnyH_take (i := 24) (oi := { dst := some 71, op := Go.Op.load 26 (Go.Operand.tmp 70), type := 26, pos := "laws.go:1652", after := #[{ on := 23, ground := Go.Ground.data }, { on := 12, ground := Go.Ground.guard }], guard := some (12, true) }) (v := undef) rfl (by kernel_rfl) (by kernel_rfl) (by kernel_rfl) (fun _ _ _ h => h) (Or.inr ⟨by rfl, rfl⟩) hHeld ?_
            try simp only [Act.put, List.setIfInBounds_toArray, List.set_cons_zero, List.set_cons_succ]
            refine wpAnyH_take (i := 25) (oi := { dst := some 72, op := Go.Op.call { callee := Go.Callee.value (Go.Operand.func 7), args := #[Go.Operand.tmp 64, Go.Operand.tmp 71], argTypes := #[24, 26] }, type := 2, pos := "laws.go:1652", after := #[{ on := 17, ground := Go.Ground.data }, { on := 24, ground := Go.Ground.data }, { on := 12, ground := Go.Ground.chain }, { on := 12, ground := Go.Ground.guard }], guard := some (12, true) }) (v := undef) rfl (by kernel_rfl) (by kernel_rfl) (by kernel_rfl) (fun _ _ _ h => h) (Or.inr ⟨by rfl, rfl⟩) hHeld ?_
            try simp only [Act.put, List.setIfInBounds_toArray, List.set_cons_zero, List.set_cons_succ]
            refine wpAnyH_take (i := 26) (oi := { dst := some 73, op := Go.Op.binOp Go.BinOp.eql 2 (Go.Operand.tmp 72) (Go.Operand.const (Go.Value.int Go.IntKind.i64 1)) 2, type := 4, pos := "laws.go:1652", after := #[{ on := 25, ground := Go.Ground.data }, { on := 12, ground := Go.Ground.guard }], guard := some (12, true) }) (v := undef) rfl (by kernel_rfl) (by kernel_rfl) (by kernel_rfl) (fun _ _ _ h => h) (Or.inr ⟨by rfl, rfl⟩) hHeld ?_
            try simp only [Act.put, List.setIfInBounds_toArray, List.set_cons_zero, List.set_cons_succ]
            refine wpAnyH_take (i := 27) (oi := { dst := some 74, op := Go.Op.pick (Go.Operand.tmp 59) (Go.Operand.tmp 73) (Go.Operand.const (Go.Value.bool false)), type := 4, pos := "laws.go:1652", after := #[{ on := 12, ground := Go.Ground.data }, { on := 26, ground := Go.Ground.data }], guard := none }) (v := ?vac27) rfl (by kernel_rfl) (by kernel_rfl) (by kernel_rfl) (fun _ _ _ h => h) (Or.inl ⟨by rfl, ?hac27⟩) hHeld ?rac27
            case hac27 => (intro w hSw; (try dsimp only at hSw); go_simp; try with_reducible rfl)
            try simp only [Act.put, List.setIfInBounds_toArray, List.set_cons_zero, List.set_cons_succ]
            refine wpAnyH_done (by kernel_rfl) ?_ _
            refine NoPanic.normal ?_
            have hB9 := bel_step hBr hHeld
            clear hk0
            go_wp2
            go_roundw
            case rel => exact ⟨j + 1, by omega, by go_num, by rw [HE.out], hB9⟩
            case measure => simp [intOf]; omega
          have hmp : decide ((0 : Int) < (m : Int)) = true := by simp only [decide_eq_true_eq]; omega
          have hmn : 0 < m := by omega
          have hmb : decide (0 < m) = true := by simp only [hmn, decide_true]
          have hml : 0 < d.row.length := by rw [Hm.out]; omega
          obtain ⟨b', off', f', rfl, hb', hxp⟩ := hp.out (k := 0) hml
          obtain ⟨_, _, _, q0, q1⟩ := hxp 0 hml
          obtain ⟨X0, HX0⟩ : ∃ x, Hid ((d.row[0]'hml).x = x) := ⟨_, (rfl : (d.row[0]'hml).x = _)⟩
          obtain ⟨Y0, HY0⟩ : ∃ x, Hid ((d.row[0]'hml).y = x) := ⟨_, (rfl : (d.row[0]'hml).y = _)⟩
          rw [HX0.out, Nat.zero_mul, Nat.add_zero] at q0
          rw [HY0.out, Nat.zero_mul, Nat.add_zero] at q1
          have HLx : Hid (lx l[i].row 0 = X0 ∧ ly l[i].row 0 = Y0) := by
            have h2 : 0 < l[i].row.length := by rw [Hd.out]; exact hml
            refine (⟨?_, ?_⟩ : lx l[i].row 0 = X0 ∧ ly l[i].row 0 = Y0)
            · rw [Hd.out, lx_at hml]; exact HX0.out
            · rw [Hd.out, ly_at hml]; exact HY0.out
          have HPk : Hid (pok X0 Y0 = true) := by
            have h := ((rgsB_out HRG.out).2 i hil).2 0 (by rw [Hd.out]; exact hml)
            rw [HLx.out.1, HLx.out.2] at h
            exact pOk_iff.2 h
          obtain ⟨z, Hz⟩ : ∃ z, Hid (insR [l[j]] X0 Y0 = z) := ⟨_, (rfl : insR [l[j]] X0 Y0 = _)⟩
          have HE : Hid (nsC m l i (j + 1) = N + (decide (z = 1)).toNat) := (by rw [nsC_step (z := z) hm0 hil hjl hji (by rw [HLx.out.1, HLx.out.2]; exact Hz.out), HNn.out] : nsC m l i (j + 1) = N + (decide (z = 1)).toNat)
          have hIn : ∀ w', Bel wr w' → Calls Try.prog 7 #[.slice (some ⟨rb, off + j * 2, none⟩) 1 (vc - j), .agg #[.int .i64 X0, .int .i64 Y0]] w' fun e w2 => e = .returned (.int .i64 z) ∧ Bel w' w2 := fun w' h => by
            refine (inside_any _ 1 (vc - j) [l[j]] _ X0 Y0 w' ((Sl.one hb HX.out hjl).bel ringE h) rfl (by decide) (one_small (HRw.out j hjl))).mono ?_
            rintro e w2 ⟨rfl, hb2⟩
            rw [insOf_ok (rgs_one HRG.out hjl) HPk.out, Hz.out]
            exact ⟨rfl, hb2⟩
          have hk0 : ∀ w', Bel wr w' → w'.cell? ⟨rb, off + i * 2, none⟩ = some (.slice (some ⟨b', off', none⟩) m c') ∧ w'.cell? ⟨b', off', none⟩ = some (.int .i64 X0) ∧ w'.cell? ⟨b', off' + 1, none⟩ = some (.int .i64 Y0) := fun w' h => ⟨bel_cellM h hb k0, bel_cellM h hb' q0, bel_cellM h hb' q1⟩
          have hwj1 : IntKind.i64.wrap ((j : Int) + 1) = j + 1 := by rw [IntKind.wrap_i64]; omega
          have hj0 : (0 : Int) ≤ (j : Int) := by omega
          have hj1 : (0 : Int) ≤ (j : Int) + 1 := by omega
          have hjc : (j : Int) + 1 ≤ (vc : Int) := by omega
          have hjj : (j : Int) ≤ (j : Int) + 1 := by omega
          have htn : ((j : Int) + 1).toNat = j + 1 := by omega
          have hcj : ¬ vc = j := by omega
          have hm00 : (0 : Int) < (m : Int) := by omega
          clear k0 q0 q1 hxp
          go_upto_region 16 with fail
          refine wp_region_noPanic ?_
          refine wp_region_held_drew (S := fun w' => Bel wr w') (by kernel_rfl) (Bel.drew g0) (fun hHeld => ?_)
          refine wpAnyH_take (i := 0) (oi := { dst := some 47, op := Go.Op.move (Go.Operand.tmp 7), type := 3, pos := "laws.go:1652", after := #[], guard := none }) (v := ?vad0) rfl (by kernel_rfl) (by kernel_rfl) (by kernel_rfl) (fun _ _ _ h => h) (Or.inl ⟨by rfl, ?had0⟩) hHeld ?rad0
          case had0 => (intro w hSw; (try dsimp only at hSw); go_simp; try with_reducible rfl)
          try simp only [Act.put, List.setIfInBounds_toArray, List.set_cons_zero, List.set_cons_succ]
          refine wpAnyH_take (i := 1) (oi := { dst := some 48, op := Go.Op.move (Go.Operand.tmp 5), type := 3, pos := "laws.go:1652", after := #[], guard := none }) (v := ?vad1) rfl (by kernel_rfl) (by kernel_rfl) (by kernel_rfl) (fun _ _ _ h => h) (Or.inl ⟨by rfl, ?had1⟩) hHeld ?rad1
          case had1 => (intro w hSw; (try dsimp only at hSw); go_simp; try with_reducible rfl)
          try simp only [Act.put, List.setIfInBounds_toArray, List.set_cons_zero, List.set_cons_succ]
          refine wpAnyH_take (i := 2) (oi := { dst := some 49, op := Go.Op.binOp Go.BinOp.neq 3 (Go.Operand.tmp 47) (Go.Operand.tmp 48) 3, type := 4, pos := "laws.go:1652", after := #[{ on := 0, ground := Go.Ground.data }, { on := 1, ground := Go.Ground.data }], guard := none }) (v := ?vad2) rfl (by kernel_rfl) (by kernel_rfl) (by kernel_rfl) (fun _ _ _ h => h) (Or.inl ⟨by rfl, ?had2⟩) hHeld ?rad2
          case had2 => (intro w hSw; (try dsimp only at hSw); go_simp; try with_reducible rfl)
          try simp only [Act.put, List.setIfInBounds_toArray, List.set_cons_zero, List.set_cons_succ]
          refine wpAnyH_take (i := 3) (oi := { dst := some 50, op := Go.Op.move (Go.Operand.tmp 49), type := 4, pos := "laws.go:1652", after := #[{ on := 2, ground := Go.Ground.data }], guard := none }) (v := ?vad3) rfl (by kernel_rfl) (by kernel_rfl) (by kernel_rfl) (fun _ _ _ h => h) (Or.inl ⟨by rfl, ?had3⟩) hHeld ?rad3
          case had3 => (intro w hSw; (try dsimp only at hSw); go_simp; try with_reducible rfl)
          try simp only [Act.put, List.setIfInBounds_toArray, List.set_cons_zero, List.set_cons_succ]
          refine wpAnyH_take (i := 4) (oi := { dst := some 51, op := Go.Op.move (Go.Operand.tmp 3), type := 24, pos := "laws.go:1652", after := #[{ on := 3, ground := Go.Ground.guard }], guard := some (3, true) }) (v := ?vad4) rfl (by kernel_rfl) (by kernel_rfl) (by kernel_rfl) (fun _ _ _ h => h) (Or.inl ⟨by rfl, ?had4⟩) hHeld ?rad4
          case had4 => (intro w hSw; (try dsimp only at hSw); go_simp; try with_reducible rfl)
          try simp only [Act.put, List.setIfInBounds_toArray, List.set_cons_zero, List.set_cons_succ]
          refine wpAnyH_take (i := 5) (oi := { dst := some 52, op := Go.Op.move (Go.Operand.tmp 5), type := 3, pos := "laws.go:1652", after := #[{ on := 3, ground := Go.Ground.guard }], guard := some (3, true) }) (v := ?vad5) rfl (by kernel_rfl) (by kernel_rfl) (by kernel_rfl) (fun _ _ _ h => h) (Or.inl ⟨by rfl, ?had5⟩) hHeld ?rad5
          case had5 => (intro w hSw; (try dsimp only at hSw); go_simp; try with_reducible rfl)
          try simp only [Act.put, List.setIfInBounds_toArray, List.set_cons_zero, List.set_cons_succ]
          refine wpAnyH_take (i := 6) (oi := { dst := some 53, op := Go.Op.indexAddr 24 (Go.Operand.tmp 51) (Go.Operand.tmp 52), type := 0, pos := "laws.go:1652", after := #[{ on := 4, ground := Go.Ground.data }, { on := 5, ground := Go.Ground.data }, { on := 3, ground := Go.Ground.guard }], guard := some (3, true) }) (v := ?vad6) rfl (by kernel_rfl) (by kernel_rfl) (by kernel_rfl) (fun _ _ _ h => h) (Or.inl ⟨by rfl, ?had6⟩) hHeld ?rad6
          case had6 => (intro w hSw; (try dsimp only at hSw); go_simp; try with_reducible rfl)
          try simp only [Act.put, List.setIfInBounds_toArray, List.set_cons_zero, List.set_cons_succ]
          refine wpAnyH_take (i := 7) (oi := { dst := some 54, op := Go.Op.fieldAddr 32 (Go.Operand.tmp 53) 0, type := 0, pos := "laws.go:1652", after := #[{ on := 6, ground := Go.Ground.data }, { on := 3, ground := Go.Ground.guard }], guard := some (3, true) }) (v := ?vad7) rfl (by kernel_rfl) (by kernel_rfl) (by kernel_rfl) (fun _ _ _ h => h) (Or.inl ⟨by rfl, ?had7⟩) hHeld ?rad7
          case had7 => (intro w hSw; (try dsimp only at hSw); go_simp; try with_reducible rfl)
          try simp only [Act.put, List.setIfInBounds_toArray, List.set_cons_zero, List.set_cons_succ]
          refine wpAnyH_take (i := 8) (oi := { dst := some 55, op := Go.Op.load 30 (Go.Operand.tmp 54), type := 30, pos := "laws.go:1652", after := #[{ on := 7, ground := Go.Ground.data }, { on := 3, ground := Go.Ground.guard }], guard := some (3, true) }) (v := ?vad8) rfl (by kernel_rfl) (by kernel_rfl) (by kernel_rfl) (fun _ _ _ h => h) (Or.inl ⟨by rfl, ?had8⟩) hHeld ?rad8
          case had8 => (intro w hSw; (try dsimp only at hSw); go_simp; try with_reducible rfl)
          try simp only [Act.put, List.setIfInBounds_toArray, List.set_cons_zero, List.set_cons_succ]
          refine wpAnyH_take (i := 9) (oi := { dst := some 56, op := Go.Op.call { callee := Go.Callee.builtin Go.Builtin.len, args := #[Go.Operand.tmp 55], argTypes := #[30] }, type := 3, pos := "laws.go:1652", after := #[{ on := 8, ground := Go.Ground.data }, { on := 3, ground := Go.Ground.guard }], guard := some (3, true) }) (v := ?vad9) rfl (by kernel_rfl) (by kernel_rfl) (by kernel_rfl) (fun _ _ _ h => h) (Or.inl ⟨by rfl, ?had9⟩) hHeld ?rad9
          case had9 => (intro w hSw; (try dsimp only at hSw); go_simp; try with_reducible rfl)
          try simp only [Act.put, List.setIfInBounds_toArray, List.set_cons_zero, List.set_cons_succ]
          refine wpAnyH_take (i := 10) (oi := { dst := some 57, op := Go.Op.binOp Go.BinOp.gtr 3 (Go.Operand.tmp 56) (Go.Operand.const (Go.Value.int Go.IntKind.i64 0)) 3, type := 4, pos := "laws.go:1652", after := #[{ on := 9, ground := Go.Ground.data }, { on := 3, ground := Go.Ground.guard }], guard := some (3, true) }) (v := ?vad10) rfl (by kernel_rfl) (by kernel_rfl) (by kernel_rfl) (fun _ _ _ h => h) (Or.inl ⟨by rfl, ?had10⟩) hHeld ?rad10
          case had10 => (intro w hSw; (try dsimp only at hSw); go_simp; try with_reducible rfl)
          try simp only [Act.put, List.setIfInBounds_toArray, List.set_cons_zero, List.set_cons_succ]
          refine wpAnyH_take (i := 11) (oi := { dst := some 58, op := Go.Op.pick (Go.Operand.tmp 50) (Go.Operand.tmp 57) (Go.Operand.const (Go.Value.bool false)), type := 4, pos := "laws.go:1652", after := #[{ on := 3, ground := Go.Ground.data }, { on := 10, ground := Go.Ground.data }], guard := none }) (v := ?vad11) rfl (by kernel_rfl) (by kernel_rfl) (by kernel_rfl) (fun _ _ _ h => h) (Or.inl ⟨by rfl, ?had11⟩) hHeld ?rad11
          case had11 => (intro w hSw; (try dsimp only at hSw); go_simp; try with_reducible rfl)
          try simp only [Act.put, List.setIfInBounds_toArray, List.set_cons_zero, List.set_cons_succ]
          refine wpAnyH_take (i := 12) (oi := { dst := some 59, op := Go.Op.move (Go.Operand.tmp 58), type := 4, pos := "laws.go:1652", after := #[{ on := 11, ground := Go.Ground.data }, { on := 3, ground := Go.Ground.chain }], guard := none }) (v := ?vad12) rfl (by kernel_rfl) (by kernel_rfl) (by kernel_rfl) (fun _ _ _ h => h) (Or.inl ⟨by rfl, ?had12⟩) hHeld ?rad12
          case had12 => (intro w hSw; (try dsimp only at hSw); go_simp; try with_reducible rfl)
          try simp only [Act.put, List.setIfInBounds_toArray, List.set_cons_zero, List.set_cons_succ]
          refine wpAnyH_take (i := 13) (oi := { dst := some 60, op := Go.Op.move (Go.Operand.tmp 3), type := 24, pos := "laws.go:1652", after := #[{ on := 12, ground := Go.Ground.guard }], guard := some (12, true) }) (v := ?vad13) rfl (by kernel_rfl) (by kernel_rfl) (by kernel_rfl) (fun _ _ _ h => h) (Or.inl ⟨by rfl, ?had13⟩) hHeld ?rad13
          case had13 => (intro w hSw; (try dsimp only at hSw); go_simp; try with_reducible rfl)
          try simp only [Act.put, List.setIfInBounds_toArray, List.set_cons_zero, List.set_cons_succ]
          refine wpAnyH_take (i := 14) (oi := { dst := some 61, op := Go.Op.move (Go.Operand.tmp 7), type := 3, pos := "laws.go:1652", after := #[{ on := 12, ground := Go.Ground.guard }], guard := some (12, true) }) (v := ?vad14) rfl (by kernel_rfl) (by kernel_rfl) (by kernel_rfl) (fun _ _ _ h => h) (Or.inl ⟨by rfl, ?had14⟩) hHeld ?rad14
          case had14 => (intro w hSw; (try dsimp only at hSw); go_simp; try with_reducible rfl)
          try simp only [Act.put, List.setIfInBounds_toArray, List.set_cons_zero, List.set_cons_succ]
          refine wpAnyH_take (i := 15) (oi := { dst := some 62, op := Go.Op.move (Go.Operand.tmp 7), type := 3, pos := "laws.go:1652", after := #[{ on := 12, ground := Go.Ground.guard }], guard := some (12, true) }) (v := ?vad15) rfl (by kernel_rfl) (by kernel_rfl) (by kernel_rfl) (fun _ _ _ h => h) (Or.inl ⟨by rfl, ?had15⟩) hHeld ?rad15
          case had15 => (intro w hSw; (try dsimp only at hSw); go_simp; try with_reducible rfl)
          try simp only [Act.put, List.setIfInBounds_toArray, List.set_cons_zero, List.set_cons_succ]
          refine wpAnyH_take (i := 16) (oi := { dst := some 63, op := Go.Op.binOp Go.BinOp.add 3 (Go.Operand.tmp 62) (Go.Operand.const (Go.Value.int Go.IntKind.i64 1)) 3, type := 3, pos := "laws.go:1652", after := #[{ on := 15, ground := Go.Ground.data }, { on := 12, ground := Go.Ground.guard }], guard := some (12, true) }) (v := ?vad16) rfl (by kernel_rfl) (by kernel_rfl) (by kernel_rfl) (fun _ _ _ h => h) (Or.inl ⟨by rfl, ?had16⟩) hHeld ?rad16
          case had16 => (intro w hSw; (try dsimp only at hSw); go_simp; try with_reducible rfl)
          try simp only [Act.put, List.setIfInBounds_toArray, List.set_cons_zero, List.set_cons_succ]
          refine wpAnyH_take (i := 17) (oi := { dst := some 64, op := Go.Op.slice 24 (Go.Operand.tmp 60) (some (Go.Operand.tmp 61)) (some (Go.Operand.tmp 63)) none, type := 24, pos := "laws.go:1652", after := #[{ on := 13, ground := Go.Ground.data }, { on := 14, ground := Go.Ground.data }, { on := 16, ground := Go.Ground.data }, { on := 12, ground := Go.Ground.guard }], guard := some (12, true) }) (v := ?vad17) rfl (by kernel_rfl) (by kernel_rfl) (by kernel_rfl) (fun _ _ _ h => h) (Or.inl ⟨by rfl, ?had17⟩) hHeld ?rad17
          case had17 => (intro w hSw; (try dsimp only at hSw); go_simp; try with_reducible rfl)
          try simp only [Act.put, List.setIfInBounds_toArray, List.set_cons_zero, List.set_cons_succ]
          refine wpAnyH_take (i := 18) (oi := { dst := some 65, op := Go.Op.move (Go.Operand.tmp 3), type := 24, pos := "laws.go:1652", after := #[{ on := 12, ground := Go.Ground.guard }], guard := some (12, true) }) (v := ?vad18) rfl (by kernel_rfl) (by kernel_rfl) (by kernel_rfl) (fun _ _ _ h => h) (Or.inl ⟨by rfl, ?had18⟩) hHeld ?rad18
          case had18 => (intro w hSw; (try dsimp only at hSw); go_simp; try with_reducible rfl)
          try simp only [Act.put, List.setIfInBounds_toArray, List.set_cons_zero, List.set_cons_succ]
          refine wpAnyH_take (i := 19) (oi := { dst := some 66, op := Go.Op.move (Go.Operand.tmp 5), type := 3, pos := "laws.go:1652", after := #[{ on := 12, ground := Go.Ground.guard }], guard := some (12, true) }) (v := ?vad19) rfl (by kernel_rfl) (by kernel_rfl) (by kernel_rfl) (fun _ _ _ h => h) (Or.inl ⟨by rfl, ?had19⟩) hHeld ?rad19
          case had19 => (intro w hSw; (try dsimp only at hSw); go_simp; try with_reducible rfl)
          try simp only [Act.put, List.setIfInBounds_toArray, List.set_cons_zero, List.set_cons_succ]
          refine wpAnyH_take (i := 20) (oi := { dst := some 67, op := Go.Op.indexAddr 24 (Go.Operand.tmp 65) (Go.Operand.tmp 66), type := 0, pos := "laws.go:1652", after := #[{ on := 18, ground := Go.Ground.data }, { on := 19, ground := Go.Ground.data }, { on := 12, ground := Go.Ground.guard }], guard := some (12, true) }) (v := ?vad20) rfl (by kernel_rfl) (by kernel_rfl) (by kernel_rfl) (fun _ _ _ h => h) (Or.inl ⟨by rfl, ?had20⟩) hHeld ?rad20
          case had20 => (intro w hSw; (try dsimp only at hSw); go_simp; try with_reducible rfl)
          try simp only [Act.put, List.setIfInBounds_toArray, List.set_cons_zero, List.set_cons_succ]
          refine wpAnyH_take (i := 21) (oi := { dst := some 68, op := Go.Op.fieldAddr 32 (Go.Operand.tmp 67) 0, type := 0, pos := "laws.go:1652", after := #[{ on := 20, ground := Go.Ground.data }, { on := 12, ground := Go.Ground.guard }], guard := some (12, true) }) (v := ?vad21) rfl (by kernel_rfl) (by kernel_rfl) (by kernel_rfl) (fun _ _ _ h => h) (Or.inl ⟨by rfl, ?had21⟩) hHeld ?rad21
          case had21 => (intro w hSw; (try dsimp only at hSw); go_simp; try with_reducible rfl)
          try simp only [Act.put, List.setIfInBounds_toArray, List.set_cons_zero, List.set_cons_succ]
          refine wpAnyH_take (i := 22) (oi := { dst := some 69, op := Go.Op.load 30 (Go.Operand.tmp 68), type := 30, pos := "laws.go:1652", after := #[{ on := 21, ground := Go.Ground.data }, { on := 12, ground := Go.Ground.guard }], guard := some (12, true) }) (v := ?vad22) rfl (by kernel_rfl) (by kernel_rfl) (by kernel_rfl) (fun _ _ _ h => h) (Or.inl ⟨by rfl, ?had22⟩) hHeld ?rad22
          case had22 => (intro w hSw; (try dsimp only at hSw); go_simp; try with_reducible rfl)
          try simp only [Act.put, List.setIfInBounds_toArray, List.set_cons_zero, List.set_cons_succ]
          refine wpAnyH_take (i := 23) (oi := { dst := some 70, op := Go.Op.indexAddr 30 (Go.Operand.tmp 69) (Go.Operand.const (Go.Value.int Go.IntKind.i64 0)), type := 0, pos := "laws.go:1652", after := #[{ on := 22, ground := Go.Ground.data }, { on := 12, ground := Go.Ground.guard }], guard := some (12, true) }) (v := ?vad23) rfl (by kernel_rfl) (by kernel_rfl) (by kernel_rfl) (fun _ _ _ h => h) (Or.inl ⟨by rfl, ?had23⟩) hHeld ?rad23
          case had23 => (intro w hSw; (try dsimp only at hSw); go_simp; try with_reducible rfl)
          try simp only [Act.put, List.setIfInBounds_toArray, List.set_cons_zero, List.set_cons_succ]
          refine wpAnyH_take (i := 24) (oi := { dst := some 71, op := Go.Op.load 26 (Go.Operand.tmp 70), type := 26, pos := "laws.go:1652", after := #[{ on := 23, ground := Go.Ground.data }, { on := 12, ground := Go.Ground.guard }], guard := some (12, true) }) (v := ?vad24) rfl (by kernel_rfl) (by kernel_rfl) (by kernel_rfl) (fun _ _ _ h => h) (Or.inl ⟨by rfl, ?had24⟩) hHeld ?rad24
          case had24 => (intro w hSw; (try dsimp only at hSw); go_simp; try with_reducible rfl)
          try simp only [Act.put, List.setIfInBounds_toArray, List.set_cons_zero, List.set_cons_succ]
          refine wpAnyH_ready (rs := [25]) (by kernel_rfl) (by simp) ?_
          refine AllReadyH.cons (o := { dst := some 72, op := Go.Op.call { callee := Go.Callee.value (Go.Operand.func 7), args := #[Go.Operand.tmp 64, Go.Operand.tmp 71], argTypes := #[24, 26] }, type := 2, pos := "laws.go:1652", after := #[{ on := 17, ground := Go.Ground.data }, { on := 24, ground := Go.Ground.data }, { on := 12, ground := Go.Ground.chain }, { on := 12, ground := Go.Ground.guard }], guard := some (12, true) }) rfl (fun K hK => ?_) AllReadyH.nil
          go_simp
          refine (hIn _ hHeld).mono ?_
          rintro e w6 ⟨rfl, hb6⟩
          go_wp2_with fail
          refine hK.out _ _ (bel_step hHeld hb6) (fun hHeld' => ?_)
          clear hK K hHeld
          have hHeld := hHeld'
          clear hHeld'
          try simp only [Act.put, List.setIfInBounds_toArray, List.set_cons_zero, List.set_cons_succ]
          refine wpAnyH_take (i := 26) (oi := { dst := some 73, op := Go.Op.binOp Go.BinOp.eql 2 (Go.Operand.tmp 72) (Go.Operand.const (Go.Value.int Go.IntKind.i64 1)) 2, type := 4, pos := "laws.go:1652", after := #[{ on := 25, ground := Go.Ground.data }, { on := 12, ground := Go.Ground.guard }], guard := some (12, true) }) (v := ?vad26) rfl (by kernel_rfl) (by kernel_rfl) (by kernel_rfl) (fun _ _ _ h => h) (Or.inl ⟨by rfl, ?had26⟩) hHeld ?rad26
          case had26 => (intro w hSw; (try dsimp only at hSw); go_simp; try with_reducible rfl)
          try simp only [Act.put, List.setIfInBounds_toArray, List.set_cons_zero, List.set_cons_succ]
          refine wpAnyH_take (i := 27) (oi := { dst := some 74, op := Go.Op.pick (Go.Operand.tmp 59) (Go.Operand.tmp 73) (Go.Operand.const (Go.Value.bool false)), type := 4, pos := "laws.go:1652", after := #[{ on := 12, ground := Go.Ground.data }, { on := 26, ground := Go.Ground.data }], guard := none }) (v := ?vad27) rfl (by kernel_rfl) (by kernel_rfl) (by kernel_rfl) (fun _ _ _ h => h) (Or.inl ⟨by rfl, ?had27⟩) hHeld ?rad27
          case had27 => (intro w hSw; (try dsimp only at hSw); go_simp; try with_reducible rfl)
          try simp only [Act.put, List.setIfInBounds_toArray, List.set_cons_zero, List.set_cons_succ]
          refine wpAnyH_done (by kernel_rfl) ?_ _
          refine NoPanic.normal ?_
          have hB9 := bel_step hBr hHeld
          clear hk0 hIn hHeld hb6 hwj1 hj1 hjc hjj htn
          by_cases hz1 : z = 1
          · subst hz1
            have HE2 : Hid (nsC m l i (j + 1) = N + 1) := HE.out
            go_wp2
            go_roundw
            case rel => exact ⟨j + 1, by omega, by go_num, by rw [HE2.out]; rfl, hB9⟩
            case measure => simp [intOf]; omega
          · have hzb : (z == 1) = false := by simpa using hz1
            have HE2 : Hid (nsC m l i (j + 1) = N) := (by rw [HE.out]; simp [hz1] : nsC m l i (j + 1) = N)
            go_wp2
            go_roundw
            case rel => exact ⟨j + 1, by omega, by go_num, by rw [HE2.out], hB9⟩
            case measure => simp [intOf]; omega
        · have e : j = q := by omega
          subst e
          have hiq : i < (nstQ l).length := by rw [Hq.out]; exact hlt
          obtain ⟨rb, off, f, rfl, hb, _⟩ := HI3.out.out hiq
          have k0 := (int_n (HI3.out.bel intE hBr) hiq).2
          obtain ⟨N, HNn⟩ : ∃ x, Hid (nsC m l i j = x) := ⟨_, (rfl : nsC m l i j = _)⟩
          have HV : Hid ((nstQ l)[i] = (N : Int)) := (by
            rw [nstQ_at HRG.out, ← HNn.out]
            have := nsC_end hil
            rw [Hd.out, Hm.out, HLn.out] at this
            rw [this] : (nstQ l)[i] = (N : Int))
          rw [HV.out] at k0
          rw [HNn.out]
          have hNN : ((N : Int) != (N : Int)) = false := by simp
          go_wp2
          go_roundw
          case rel => exact ⟨i + 1, by omega, by go_num, hBr⟩
          case measure => simp [intOf]; omega
    · have e : i = q := by omega
      subst e
      have hRo := HR3.out.bel ringE hBo
      have HIo : Hid (Ints wo a2 (nstQ l) b2) := HI3.out.bel intE hBo
      have HBo : Hid (Bel w wo) := bel_step HB3.out hBo
      go_wp2_with fail
      refine (orientc_any va i vc l bs wo hRo HLn.out (by omega) HRw.out).mono ?_
      rintro e w5 ⟨v5, b5, rfl, ⟨a5, c5, rfl, hc5, hR5⟩, _, hb5⟩
      have HQ5 : Hid (ornQ l = l.map ornR) := (by unfold ornQ; rw [HRG.out]; rfl : ornQ l = l.map ornR)
      have HL5 : Hid ((ornQ l).length = i) := (by rw [HQ5.out, List.length_map, HLn.out] : (ornQ l).length = i)
      have HRw5 : Hid (∀ k (h : k < (ornQ l).length), (ornQ l)[k].row.length ≤ 1048576) := fun k h => by
        have h2 : k < l.length := by rw [HLn.out, ← HL5.out]; exact h
        have e : (ornQ l)[k] = ornR l[k] := by simp only [HQ5.out, List.getElem_map]
        rw [e, ornR_len]
        exact HRw.out k h2
      rw [HL5.out] at hc5 ⊢
      go_wp2_with fail
      refine (nesting_any a5 i c5 (ornQ l) b5 w5 hR5 HL5.out hc5 (by omega) HRw5.out).mono ?_
      rintro e w6 ⟨v6, rfl, hO6, hb6⟩
      obtain ⟨a6, c6, b6, rfl, hI6, _, _⟩ := hO6
      obtain ⟨s, Hs⟩ : ∃ x, Hid ((nstQ (ornQ l)).length = x) := ⟨_, (rfl : (nstQ (ornQ l)).length = _)⟩
      rw [Hs.out]
      have hs45 : s ≤ 45 := by rw [← Hs.out]; exact Nat.le_trans (nstQ_len _) (by rw [HL5.out]; omega)
      have hB56 := bel_step hb5 hb6
      have HI2 : Hid (Ints w6 a2 (nstQ l) b2) := HIo.out.bel intE hB56
      go_wp2_with fail
      refine (lawSameInts_any a6 a2 s i c6 c2 (nstQ (ornQ l)) (nstQ l) b6 b2 w6 hI6 HI2.out Hs.out (by rw [Hq.out]) (by omega)).mono ?_
      rintro e w7 ⟨b, rfl, hbt, hb7⟩
      have hB57 := bel_step hB56 hb7
      have HB7 : Hid (Bel w w7) := bel_step HBo.out hB57
      cases b
      · have HSm : Hid ((l.all fun r => clB r.row) = false) := (by
          cases hc : (l.all fun r => clB r.row)
          · rfl
          · exact absurd (hbt (nstQ_orn HRG.out (fun k h => (List.all_eq_true.1 hc) _ (List.getElem_mem h)))) Bool.false_ne_true : (l.all fun r => clB r.row) = false)
        go_wp2_with fail
        refine (lawSimple_any va i vc l bs w7 (hRo.bel ringE hB57) HLn.out (by omega) HRow.out).mono ?_
        rintro e w8 ⟨rfl, hb8⟩
        rw [HSm.out]
        go_wp2
        go_ret
        exact ⟨rfl, bel_step HB7.out hb8⟩
      · go_wp2
        go_ret
        exact ⟨rfl, HB7.out⟩
end Go.Proofs.Ytkpgcnfokohhiaa
