/-
  Contract of Nesting in the program: for all rings.
-/
import Derived.Test.YtkpgcnfokohhiaaInsI
import Derived.Test.YtkpgcnfokohhiaaNstM
import Derived.Test.YtkpgcnfokohhiaaOwnB
import Derived.Deep.OwnRows
namespace Go.Proofs.Ytkpgcnfokohhiaa
open Go.RowKit Go.Maps

theorem row_bel {w w' : World} {b : Nat} {t : TypeId} {n : Nat} {f : Nat → Value} (h : w.rowIs b t n f) (hb : Bel w w') : w'.rowIs b t n f := h.of_block (hb.out.block b h.lt)
/-- What the row of depths holds while ring k is being asked. -/
def dep (l : List RingD) (k j : Nat) (i : Nat) : Value := .int .i64 ((if i < k then nst l i else if i = k then nsT l k j else 0 : Nat) : Int)
theorem dep_zero (l : List RingD) (i : Nat) : dep l 0 0 i = .int .i64 0 := by
  unfold dep
  rw [if_neg (Nat.not_lt_zero _)]
  split <;> rfl
theorem dep_next {l : List RingD} {k j : Nat} (h : nst l k = nsT l k j) (i : Nat) : dep l k j i = dep l (k + 1) 0 i := by
  unfold dep
  congr 2
  by_cases h1 : i < k
  · rw [if_pos h1, if_pos (by omega)]
  · rw [if_neg h1]
    by_cases h2 : i = k
    · subst h2; rw [if_pos rfl, if_pos (by omega), h]
    · rw [if_neg h2, if_neg (by omega)]
      split <;> rfl
theorem dep_at (l : List RingD) (k j : Nat) : dep l k j k = .int .i64 ((nsT l k j : Nat) : Int) := by
  unfold dep; rw [if_neg (Nat.lt_irrefl _), if_pos rfl]
theorem dep_set {l : List RingD} {k j : Nat} {v : Value} (h : v = .int .i64 ((nsT l k (j + 1) : Nat) : Int)) (i : Nat) : (if i = k then v else dep l k j i) = dep l k (j + 1) i := by
  by_cases e : i = k
  · subst e; rw [if_pos rfl, dep_at, h]
  · rw [if_neg e]; unfold dep; rw [if_neg e, if_neg e]
theorem dep_same {l : List RingD} {k j : Nat} (h : nsT l k (j + 1) = nsT l k j) (i : Nat) : dep l k j i = dep l k (j + 1) i := by
  unfold dep; rw [h]
theorem row_ints {w : World} {B n : Nat} {l : List RingD} {base : Nat} (h : w.rowIs B 2 n (dep l n 0)) (hl : l.length = n) (hm : n ≤ 40) (hB : base ≤ B) : OutI base w (.slice (some ⟨B, 0, none⟩) n n) (nstTo l n) := by
  have hml : ∀ x ∈ B :: (List.range n).flatMap (fun _ => ([] : List Nat)), x = B := fun x hx => by
    rcases List.mem_cons.1 hx with h | h
    · exact h
    · obtain ⟨_, _, h⟩ := List.mem_flatMap.1 h
      exact nomatch h
  refine ⟨some ⟨B, 0, none⟩, n, B :: (List.range n).flatMap (fun _ => []), by rw [nstTo_len], .inr ⟨B, 0, fun _ => [], rfl, h.lt, by rw [nstTo_len], fun i hi => ?_⟩, fun x hx => by rw [hml x hx]; exact ⟨hB, h.lt⟩, fun x hx j => by rw [hml x hx]; exact h.frozen j⟩
  rw [nstTo_len] at hi
  have h1 := nst_le l i
  have e : (nstTo l n)[i]'(by rw [nstTo_len]; exact hi) = ((nst l i : Nat) : Int) := by simp [nstTo]
  refine ⟨rfl, by rw [e]; exact ⟨by omega, by omega⟩, ?_⟩
  rw [e, Nat.zero_add, Nat.mul_one, h.cell hi]
  unfold dep
  rw [if_pos hi]

set_option maxRecDepth 100000 in
set_option maxHeartbeats 4000000 in
theorem nesting_any (a : Option Addr) (n c : Nat) (l : List RingD) (bs : List Nat) (w : World) (hT : RingL w a l bs) (hn : l.length = n) (hc : n ≤ c) (hm : n ≤ 1048576) (hs : ∀ i (h : i < l.length), l[i].row.length ≤ 1048576) :
    Calls Try.prog 12 #[.slice a n c] w fun e w' => ∃ v', e = .returned v' ∧ OutI w.heap.size w' v' (nstQ l) ∧ Bel w w' := by
  have Hn : Hid (l.length = n) := hn
  go_enter Try.func12, Try.ntmps12
  go_wp2_with fail
  refine (ringsOk_any _ _ _ l bs _ hT hn hm hs).mono ?_
  rintro e w1 ⟨rfl, hb1⟩
  clear hn
  cases hok : rgsB l
  · have HQ : Hid (nstQ l = []) := (by unfold nstQ; rw [hok]; rfl : nstQ l = [])
    go_wp2
    go_ret
    exact ⟨_, rfl, by rw [HQ.out]; exact ⟨none, 0, [], rfl, Sl.nil, (fun _ h => nomatch h), (fun _ h => nomatch h)⟩, hb1⟩
  · have HQ : Hid (nstQ l = nstTo l n) := (by unfold nstQ; rw [hok, if_pos rfl, Hn.out] : nstQ l = nstTo l n)
    have hm40 : n ≤ 40 := by rw [← Hn.out]; exact (rgsB_out hok).1
    have HR : Hid (∀ j (hj : j < l.length), l[j].row.length ≤ 2000 ∧ ∀ i, i < l[j].row.length → POk (lx l[j].row i) (ly l[j].row i)) := (rgsB_out hok).2
    have HOK : Hid (rgsB l = true) := hok
    have hT1 := hT.bel ringE hb1
    clear hok hT hs
    have hmk := fun w' => run_make_row' (P := Try.prog) 36 2 (.int .i64 0) 8 Try.underlying36 infoI rfl .i64 .i64 n (by omega) (by omega) w'
    obtain ⟨V1, HV1⟩ : ∃ V : World, V = w1 := ⟨w1, rfl⟩
    subst HV1
    have R0 : (V1.alloc (.cells (madeCells #[.int .i64 0] n) 2)).rowIs V1.heap.size 2 n (dep l 0 0) := (World.rowIs_made V1 (.int .i64 0) n 2).congr fun i _ => (dep_zero l i).symm
    have hBa : Bel V1 (V1.alloc (.cells (madeCells #[.int .i64 0] n) 2)) := bel_alloc (Bel.refl _) _
    go_wp2
    go_loopw [15] (fun i wr => ∃ k : Nat, k ≤ n ∧ i = .int .i64 k ∧ wr.rowIs V1.heap.size 2 n (dep l k 0) ∧ Bel V1 wr) (fun i _ => n - (intOf i).toNat)
    case atStart => exact ⟨0, Nat.zero_le _, rfl, R0, hBa⟩
    case round =>
      clear R0 hBa hmk
      obtain ⟨k, hk, rfl, hr, hBr⟩ := hrel
      by_cases hlt : k < n
      · have hkl : k < l.length := by rw [Hn.out]; exact hlt
        obtain ⟨b, off, f, rfl, hb, hx⟩ := hT1.out hkl
        obtain ⟨a0, k0, _, c0, c1, t0⟩ := hx k hkl
        have HRk := HR.out k hkl
        have hnz := nst_zero (l := l) hkl
        have hns := nst_some (l := l) hkl
        obtain ⟨m, hmr⟩ : ∃ m, l[k].row.length = m := ⟨_, rfl⟩
        have hP0 := t0.pts
        rw [hmr] at c0 HRk hnz hns hP0
        have HX : Hid (∀ i (h : i < l.length), RingE V1 b (off + i * 2) l[i] (f i)) := hx
        have r0 := bel_cellM hBr hb c0
        have r1 := bel_cellM hBr hb c1
        have hbr := bel_lt hBr hb
        obtain ⟨wq, Hwq⟩ : ∃ V : World, Hid (V = wr.alloc (.cells #[.slice a0 m k0, .bool l[k].inner] 32)) := ⟨_, (rfl : wr.alloc (.cells #[.slice a0 m k0, .bool l[k].inner] 32) = _)⟩
        have hBq : Bel wr wq := by rw [Hwq.out]; exact bel_alloc (Bel.refl _) _
        have XR : Blk wq wr.heap.size [.slice a0 m k0, .bool l[k].inner] := by rw [Hwq.out]; exact Blk.new wr [.slice a0 m k0, .bool l[k].inner] _
        have hrq : wq.rowIs V1.heap.size 2 n (dep l k 0) := row_bel hr hBq
        have hVR : V1.heap.size ≠ wr.heap.size := by have := hr.lt; omega
        have hBVq : Bel V1 wq := bel_step hBr hBq
        have hlt' : (k : Int) < (n : Int) := by omega
        obtain ⟨rr, hrr⟩ : ∃ r, wr.heap.size = r := ⟨_, rfl⟩
        rw [hrr] at hVR
        clear hx t0
        by_cases hm0 : m = 0
        · subst hm0
          have HZ : Hid (nst l k = 0) := hnz rfl
          have HD : Hid (wq.rowIs V1.heap.size 2 n (dep l (k + 1) 0)) := hrq.congr fun i _ => dep_next (by rw [HZ.out]; rfl) i
          clear hnz hns hP0 HRk hr hrq hrr
          go_wp2
          rw [← Hwq.out]
          go_roundw
          case rel => exact ⟨k + 1, by omega, by go_num, HD.out, hBVq⟩
          case measure => simp [intOf]; omega
        · have HZ : Hid (nst l k = nsT l k n) := by rw [← Hn.out]; exact hns hm0
          have hmp : ¬ (m : Int) = 0 := by omega
          have hmb : ((m : Int) == 0) = false := by simpa using hm0
          have hmp0 : (0 : Int) < (m : Int) := by omega
          have hmq : 0 < m := by omega
          have hp0 := HRk.2 0 hmq
          have hm2 : m ≤ 2000 := HRk.1
          clear hnz hns HRk
          rcases hP0 with h | ⟨b1, o1, rfl, h2, h3⟩
          · omega
          obtain ⟨cx, cy⟩ := h3 0 hmq
          simp only [Nat.zero_mul, Nat.add_zero] at cx cy
          obtain ⟨px, hpx⟩ : ∃ x, lx l[k].row 0 = x := ⟨_, rfl⟩
          obtain ⟨py, hpy⟩ : ∃ x, ly l[k].row 0 = x := ⟨_, rfl⟩
          have HK : Hid (∀ j (hj : j < l.length), j ≠ k → inK l k j = decide (insR [l[j]] px py = 1)) := fun j hj hne => by rw [inK_at hkl hj hne, hpx, hpy]
          rw [hpx] at cx hp0; rw [hpy] at cy hp0
          clear h3 hpx hpy hmr hr
          have rcl : Blk wq rr [.slice (some ⟨b1, o1, none⟩) m k0, .bool l[k].inner] := by rw [← hrr]; exact XR
          clear XR
          go_wp2
          rw [← Hwq.out]
          clear r0 r1 hbr Hwq hBq hBr hrr
          go_loopw [6, 26] (fun _ i wr => ∃ j : Nat, j ≤ n ∧ i = .int .i64 j ∧ wr.rowIs V1.heap.size 2 n (dep l k j) ∧ Blk wr rr [.slice (some ⟨b1, o1, none⟩) m k0, .bool l[k].inner] ∧ Bel V1 wr) (fun _ i _ => n - (intOf i).toNat)
          case atStart => exact ⟨0, Nat.zero_le _, rfl, hrq, rcl, hBVq⟩
          case round =>
            clear hrq rcl hBVq
            obtain ⟨j, hj, rfl, hr, Xr, hBr⟩ := hrel
            have hD1 := nsT_le l k j
            obtain ⟨D, HD⟩ : ∃ D, Hid (nsT l k j = D) := ⟨_, (rfl : nsT l k j = _)⟩
            rw [HD.out] at hD1
            by_cases hlj : j < n
            · have hlj' : (j : Int) < (n : Int) := by omega
              have hjl : j < l.length := by rw [Hn.out]; exact hlj
              have g0 : Bel wr wr := Bel.refl _
              have hRR : ∀ w', Bel wr w' → w'.cell? ⟨rr, 0, none⟩ = some (.slice (some ⟨b1, o1, none⟩) m k0) ∧ w'.cell? ⟨b1, o1, none⟩ = some (.int .i64 px) ∧ w'.cell? ⟨b1, o1 + 1, none⟩ = some (.int .i64 py) := fun w' h => ⟨(Xr.bel h).cell 0 (by simp), bel_cellM (bel_step hBr h) h2 cx, bel_cellM (bel_step hBr h) h2 cy⟩
              by_cases hjk : j = k
              · subst hjk
                have HN : Hid (nsT l j (j + 1) = nsT l j j) := by
                  show nsT l j j + (inK l j j).toNat = _
                  rw [inK_same]; exact rfl
                have HR1 : Hid (wr.drew.rowIs V1.heap.size 2 n (dep l j (j + 1))) := hr.drew.congr fun i _ => dep_same HN.out i
                have Xd : Blk wr.drew rr [.slice (some ⟨b1, o1, none⟩) m k0, .bool l[j].inner] := Xr.bel (Bel.drew g0)
                have hbj : Bel V1 wr.drew := bel_step hBr (Bel.drew g0)
                clear hr Xr
                go_wp2
                refine wp_region_noPanic ?_
                refine wp_region_held_drew (S := fun w' => Bel wr w') (by kernel_rfl) (Bel.drew g0) (fun hHeld => ?_)
                refine wpAnyH_take (i := 0) (oi := { dst := some 29, op := Go.Op.move (Go.Operand.tmp 6), type := 3, pos := "l04_rings.go:122", after := #[], guard := none }) (v := ?vab0) rfl (by kernel_rfl) (by kernel_rfl) (by kernel_rfl) (fun _ _ _ h => h) (Or.inl ⟨by rfl, ?hab0⟩) hHeld ?rab0
                case hab0 => (intro w hSw; (try dsimp only at hSw); go_simp; try with_reducible rfl)
                try simp only [Act.put, List.setIfInBounds_toArray, List.set_cons_zero, List.set_cons_succ]
                refine wpAnyH_take (i := 1) (oi := { dst := some 30, op := Go.Op.move (Go.Operand.tmp 4), type := 3, pos := "l04_rings.go:122", after := #[], guard := none }) (v := ?vab1) rfl (by kernel_rfl) (by kernel_rfl) (by kernel_rfl) (fun _ _ _ h => h) (Or.inl ⟨by rfl, ?hab1⟩) hHeld ?rab1
                case hab1 => (intro w hSw; (try dsimp only at hSw); go_simp; try with_reducible rfl)
                try simp only [Act.put, List.setIfInBounds_toArray, List.set_cons_zero, List.set_cons_succ]
                refine wpAnyH_take (i := 2) (oi := { dst := some 31, op := Go.Op.binOp Go.BinOp.neq 3 (Go.Operand.tmp 29) (Go.Operand.tmp 30) 3, type := 4, pos := "l04_rings.go:122", after := #[{ on := 0, ground := Go.Ground.data }, { on := 1, ground := Go.Ground.data }], guard := none }) (v := ?vab2) rfl (by kernel_rfl) (by kernel_rfl) (by kernel_rfl) (fun _ _ _ h => h) (Or.inl ⟨by rfl, ?hab2⟩) hHeld ?rab2
                case hab2 => (intro w hSw; (try dsimp only at hSw); go_simp; try with_reducible rfl)
                try simp only [Act.put, List.setIfInBounds_toArray, List.set_cons_zero, List.set_cons_succ]
                refine wpAnyH_take (i := 3) (oi := { dst := some 32, op := Go.Op.move (Go.Operand.tmp 31), type := 4, pos := "l04_rings.go:122", after := #[{ on := 2, ground := Go.Ground.data }], guard := none }) (v := ?vab3) rfl (by kernel_rfl) (by kernel_rfl) (by kernel_rfl) (fun _ _ _ h => h) (Or.inl ⟨by rfl, ?hab3⟩) hHeld ?rab3
                case hab3 => (intro w hSw; (try dsimp only at hSw); go_simp; try with_reducible rfl)
                try simp only [Act.put, List.setIfInBounds_toArray, List.set_cons_zero, List.set_cons_succ]
                refine wpAnyH_take (i := 4) (oi := { dst := some 33, op := Go.Op.move (Go.Operand.tmp 0), type := 24, pos := "l04_rings.go:122", after := #[{ on := 3, ground := Go.Ground.guard }], guard := some (3, true) }) (v := undef) rfl (by kernel_rfl) (by kernel_rfl) (by kernel_rfl) (fun _ _ _ h => h) (Or.inr ⟨by rfl, rfl⟩) hHeld ?_
                try simp only [Act.put, List.setIfInBounds_toArray, List.set_cons_zero, List.set_cons_succ]
                refine wpAnyH_take (i := 5) (oi := { dst := some 34, op := Go.Op.move (Go.Operand.tmp 6), type := 3, pos := "l04_rings.go:122", after := #[{ on := 3, ground := Go.Ground.guard }], guard := some (3, true) }) (v := undef) rfl (by kernel_rfl) (by kernel_rfl) (by kernel_rfl) (fun _ _ _ h => h) (Or.inr ⟨by rfl, rfl⟩) hHeld ?_
                try simp only [Act.put, List.setIfInBounds_toArray, List.set_cons_zero, List.set_cons_succ]
                refine wpAnyH_take (i := 6) (oi := { dst := some 35, op := Go.Op.move (Go.Operand.tmp 6), type := 3, pos := "l04_rings.go:122", after := #[{ on := 3, ground := Go.Ground.guard }], guard := some (3, true) }) (v := undef) rfl (by kernel_rfl) (by kernel_rfl) (by kernel_rfl) (fun _ _ _ h => h) (Or.inr ⟨by rfl, rfl⟩) hHeld ?_
                try simp only [Act.put, List.setIfInBounds_toArray, List.set_cons_zero, List.set_cons_succ]
                refine wpAnyH_take (i := 7) (oi := { dst := some 36, op := Go.Op.binOp Go.BinOp.add 3 (Go.Operand.tmp 35) (Go.Operand.const (Go.Value.int Go.IntKind.i64 1)) 3, type := 3, pos := "l04_rings.go:122", after := #[{ on := 6, ground := Go.Ground.data }, { on := 3, ground := Go.Ground.guard }], guard := some (3, true) }) (v := undef) rfl (by kernel_rfl) (by kernel_rfl) (by kernel_rfl) (fun _ _ _ h => h) (Or.inr ⟨by rfl, rfl⟩) hHeld ?_
                try simp only [Act.put, List.setIfInBounds_toArray, List.set_cons_zero, List.set_cons_succ]
                refine wpAnyH_take (i := 8) (oi := { dst := some 37, op := Go.Op.slice 24 (Go.Operand.tmp 33) (some (Go.Operand.tmp 34)) (some (Go.Operand.tmp 36)) none, type := 24, pos := "l04_rings.go:122", after := #[{ on := 4, ground := Go.Ground.data }, { on := 5, ground := Go.Ground.data }, { on := 7, ground := Go.Ground.data }, { on := 3, ground := Go.Ground.guard }], guard := some (3, true) }) (v := undef) rfl (by kernel_rfl) (by kernel_rfl) (by kernel_rfl) (fun _ _ _ h => h) (Or.inr ⟨by rfl, rfl⟩) hHeld ?_
                try simp only [Act.put, List.setIfInBounds_toArray, List.set_cons_zero, List.set_cons_succ]
                refine wpAnyH_take (i := 9) (oi := { dst := some 38, op := Go.Op.fieldAddr 32 (Go.Operand.tmp 5) 0, type := 0, pos := "l04_rings.go:122", after := #[{ on := 3, ground := Go.Ground.guard }], guard := some (3, true) }) (v := undef) rfl (by kernel_rfl) (by kernel_rfl) (by kernel_rfl) (fun _ _ _ h => h) (Or.inr ⟨by rfl, rfl⟩) hHeld ?_
                try simp only [Act.put, List.setIfInBounds_toArray, List.set_cons_zero, List.set_cons_succ]
                refine wpAnyH_take (i := 10) (oi := { dst := some 39, op := Go.Op.load 30 (Go.Operand.tmp 38), type := 30, pos := "l04_rings.go:122", after := #[{ on := 9, ground := Go.Ground.data }, { on := 3, ground := Go.Ground.guard }], guard := some (3, true) }) (v := undef) rfl (by kernel_rfl) (by kernel_rfl) (by kernel_rfl) (fun _ _ _ h => h) (Or.inr ⟨by rfl, rfl⟩) hHeld ?_
                try simp only [Act.put, List.setIfInBounds_toArray, List.set_cons_zero, List.set_cons_succ]
                refine wpAnyH_take (i := 11) (oi := { dst := some 40, op := Go.Op.indexAddr 30 (Go.Operand.tmp 39) (Go.Operand.const (Go.Value.int Go.IntKind.i64 0)), type := 0, pos := "l04_rings.go:122", after := #[{ on := 10, ground := Go.Ground.data }, { on := 3, ground := Go.Ground.guard }], guard := some (3, true) }) (v := undef) rfl (by kernel_rfl) (by kernel_rfl) (by kernel_rfl) (fun _ _ _ h => h) (Or.inr ⟨by rfl, rfl⟩) hHeld ?_
                try simp only [Act.put, List.setIfInBounds_toArray, List.set_cons_zero, List.set_cons_succ]
                refine wpAnyH_take (i := 12) (oi := { dst := some 41, op := Go.Op.load 26 (Go.Operand.tmp 40), type := 26, pos := "l04_rings.go:122", after := #[{ on := 11, ground := Go.Ground.data }, { on := 3, ground := Go.Ground.guard }], guard := some (3, true) }) (v := undef) rfl (by kernel_rfl) (by kernel_rfl) (by kernel_rfl) (fun _ _ _ h => h) (Or.inr ⟨by rfl, rfl⟩) hHeld ?_
                try simp only [Act.put, List.setIfInBounds_toArray, List.set_cons_zero, List.set_cons_succ]
                refine wpAnyH_take (i := 13) (oi := { dst := some 42, op := Go.Op.call { callee := Go.Callee.value (Go.Operand.func 7), args := #[Go.Operand.tmp 37, Go.Operand.tmp 41], argTypes := #[24, 26] }, type := 2, pos := "l04_rings.go:122", after := #[{ on := 8, ground := Go.Ground.data }, { on := 12, ground := Go.Ground.data }, { on := 3, ground := Go.Ground.chain }, { on := 3, ground := Go.Ground.guard }], guard := some (3, true) }) (v := undef) rfl (by kernel_rfl) (by kernel_rfl) (by kernel_rfl) (fun _ _ _ h => h) (Or.inr ⟨by rfl, rfl⟩) hHeld ?_
                try simp only [Act.put, List.setIfInBounds_toArray, List.set_cons_zero, List.set_cons_succ]
                refine wpAnyH_take (i := 14) (oi := { dst := some 43, op := Go.Op.binOp Go.BinOp.eql 2 (Go.Operand.tmp 42) (Go.Operand.const (Go.Value.int Go.IntKind.i64 1)) 2, type := 4, pos := "l04_rings.go:122", after := #[{ on := 13, ground := Go.Ground.data }, { on := 3, ground := Go.Ground.guard }], guard := some (3, true) }) (v := undef) rfl (by kernel_rfl) (by kernel_rfl) (by kernel_rfl) (fun _ _ _ h => h) (Or.inr ⟨by rfl, rfl⟩) hHeld ?_
                try simp only [Act.put, List.setIfInBounds_toArray, List.set_cons_zero, List.set_cons_succ]
                refine wpAnyH_take (i := 15) (oi := { dst := some 44, op := Go.Op.pick (Go.Operand.tmp 32) (Go.Operand.tmp 43) (Go.Operand.const (Go.Value.bool false)), type := 4, pos := "l04_rings.go:122", after := #[{ on := 3, ground := Go.Ground.data }, { on := 14, ground := Go.Ground.data }], guard := none }) (v := ?vab15) rfl (by kernel_rfl) (by kernel_rfl) (by kernel_rfl) (fun _ _ _ h => h) (Or.inl ⟨by rfl, ?hab15⟩) hHeld ?rab15
                case hab15 => (intro w hSw; (try dsimp only at hSw); go_simp; try with_reducible rfl)
                try simp only [Act.put, List.setIfInBounds_toArray, List.set_cons_zero, List.set_cons_succ]
                refine wpAnyH_done (by kernel_rfl) ?_ _
                refine NoPanic.normal ?_
                clear hRR
                go_wp2
                go_roundw
                case rel => exact ⟨j + 1, by omega, by go_num, HR1.out, Xd, hbj⟩
                case measure => simp [intOf]; omega
              · have hjk' : ¬ (j : Int) = (k : Int) := by omega
                have HIk := HK.out j hjl hjk
                have HOK1 : Hid (rgsB [l[j]] = true) := rgs_one HOK.out hjl
                have hS : ∀ w', Bel wr w' → RingL w' (some ⟨b, off + j * 2, none⟩) [l[j]] (b :: (List.range 1).flatMap fun _ => f j) := fun w' h => (Sl.one hb HX.out hjl).bel ringE (bel_step hBr h)
                obtain ⟨z, Hz⟩ : ∃ z, Hid (insR [l[j]] px py = z) := ⟨_, (rfl : insR [l[j]] px py = _)⟩
                rw [Hz.out] at HIk
                have HN : Hid (nsT l k (j + 1) = D + (decide (z = 1)).toNat) := by
                  show nsT l k j + (inK l k j).toNat = _
                  rw [HIk, HD.out]
                have hbn : ((j : Int) != (k : Int)) = true := by simp; omega
                have hwj1 : IntKind.i64.wrap ((j : Int) + 1) = j + 1 := by rw [IntKind.wrap_i64]; omega
                have hj0 : (0 : Int) ≤ (j : Int) := by omega
                have hj1 : (0 : Int) ≤ (j : Int) + 1 := by omega
                have hjc : (j : Int) + 1 ≤ (c : Int) := by omega
                have hjj : (j : Int) ≤ (j : Int) + 1 := by omega
                have htn : ((j : Int) + 1).toNat = j + 1 := by omega
                have hk0 : (0 : Int) ≤ (k : Int) := by omega
                have hcj : ¬ c = j := by omega
                have HRW : Hid (wr.rowIs V1.heap.size 2 n (dep l k j)) := hr
                clear HIk hr
                by_cases hz : z = 1
                · subst hz
                  go_wp2
                  refine wp_region_noPanic ?_
                  refine wp_region_held_drew (S := fun w' => Bel wr w') (by kernel_rfl) (Bel.drew g0) (fun hHeld => ?_)
                  refine wpAnyH_take (i := 0) (oi := { dst := some 29, op := Go.Op.move (Go.Operand.tmp 6), type := 3, pos := "l04_rings.go:122", after := #[], guard := none }) (v := ?vac0) rfl (by kernel_rfl) (by kernel_rfl) (by kernel_rfl) (fun _ _ _ h => h) (Or.inl ⟨by rfl, ?hac0⟩) hHeld ?rac0
                  case hac0 => (intro w hSw; (try dsimp only at hSw); go_simp; try with_reducible rfl)
                  try simp only [Act.put, List.setIfInBounds_toArray, List.set_cons_zero, List.set_cons_succ]
                  refine wpAnyH_take (i := 1) (oi := { dst := some 30, op := Go.Op.move (Go.Operand.tmp 4), type := 3, pos := "l04_rings.go:122", after := #[], guard := none }) (v := ?vac1) rfl (by kernel_rfl) (by kernel_rfl) (by kernel_rfl) (fun _ _ _ h => h) (Or.inl ⟨by rfl, ?hac1⟩) hHeld ?rac1
                  case hac1 => (intro w hSw; (try dsimp only at hSw); go_simp; try with_reducible rfl)
                  try simp only [Act.put, List.setIfInBounds_toArray, List.set_cons_zero, List.set_cons_succ]
                  refine wpAnyH_take (i := 2) (oi := { dst := some 31, op := Go.Op.binOp Go.BinOp.neq 3 (Go.Operand.tmp 29) (Go.Operand.tmp 30) 3, type := 4, pos := "l04_rings.go:122", after := #[{ on := 0, ground := Go.Ground.data }, { on := 1, ground := Go.Ground.data }], guard := none }) (v := ?vac2) rfl (by kernel_rfl) (by kernel_rfl) (by kernel_rfl) (fun _ _ _ h => h) (Or.inl ⟨by rfl, ?hac2⟩) hHeld ?rac2
                  case hac2 => (intro w hSw; (try dsimp only at hSw); go_simp; try with_reducible rfl)
                  try simp only [Act.put, List.setIfInBounds_toArray, List.set_cons_zero, List.set_cons_succ]
                  refine wpAnyH_take (i := 3) (oi := { dst := some 32, op := Go.Op.move (Go.Operand.tmp 31), type := 4, pos := "l04_rings.go:122", after := #[{ on := 2, ground := Go.Ground.data }], guard := none }) (v := ?vac3) rfl (by kernel_rfl) (by kernel_rfl) (by kernel_rfl) (fun _ _ _ h => h) (Or.inl ⟨by rfl, ?hac3⟩) hHeld ?rac3
                  case hac3 => (intro w hSw; (try dsimp only at hSw); go_simp; try with_reducible rfl)
                  try simp only [Act.put, List.setIfInBounds_toArray, List.set_cons_zero, List.set_cons_succ]
                  refine wpAnyH_take (i := 4) (oi := { dst := some 33, op := Go.Op.move (Go.Operand.tmp 0), type := 24, pos := "l04_rings.go:122", after := #[{ on := 3, ground := Go.Ground.guard }], guard := some (3, true) }) (v := ?vac4) rfl (by kernel_rfl) (by kernel_rfl) (by kernel_rfl) (fun _ _ _ h => h) (Or.inl ⟨by rfl, ?hac4⟩) hHeld ?rac4
                  case hac4 => (intro w hSw; (try dsimp only at hSw); go_simp; try with_reducible rfl)
                  try simp only [Act.put, List.setIfInBounds_toArray, List.set_cons_zero, List.set_cons_succ]
                  refine wpAnyH_take (i := 5) (oi := { dst := some 34, op := Go.Op.move (Go.Operand.tmp 6), type := 3, pos := "l04_rings.go:122", after := #[{ on := 3, ground := Go.Ground.guard }], guard := some (3, true) }) (v := ?vac5) rfl (by kernel_rfl) (by kernel_rfl) (by kernel_rfl) (fun _ _ _ h => h) (Or.inl ⟨by rfl, ?hac5⟩) hHeld ?rac5
                  case hac5 => (intro w hSw; (try dsimp only at hSw); go_simp; try with_reducible rfl)
                  try simp only [Act.put, List.setIfInBounds_toArray, List.set_cons_zero, List.set_cons_succ]
                  refine wpAnyH_take (i := 6) (oi := { dst := some 35, op := Go.Op.move (Go.Operand.tmp 6), type := 3, pos := "l04_rings.go:122", after := #[{ on := 3, ground := Go.Ground.guard }], guard := some (3, true) }) (v := ?vac6) rfl (by kernel_rfl) (by kernel_rfl) (by kernel_rfl) (fun _ _ _ h => h) (Or.inl ⟨by rfl, ?hac6⟩) hHeld ?rac6
                  case hac6 => (intro w hSw; (try dsimp only at hSw); go_simp; try with_reducible rfl)
                  try simp only [Act.put, List.setIfInBounds_toArray, List.set_cons_zero, List.set_cons_succ]
                  refine wpAnyH_take (i := 7) (oi := { dst := some 36, op := Go.Op.binOp Go.BinOp.add 3 (Go.Operand.tmp 35) (Go.Operand.const (Go.Value.int Go.IntKind.i64 1)) 3, type := 3, pos := "l04_rings.go:122", after := #[{ on := 6, ground := Go.Ground.data }, { on := 3, ground := Go.Ground.guard }], guard := some (3, true) }) (v := ?vac7) rfl (by kernel_rfl) (by kernel_rfl) (by kernel_rfl) (fun _ _ _ h => h) (Or.inl ⟨by rfl, ?hac7⟩) hHeld ?rac7
                  case hac7 => (intro w hSw; (try dsimp only at hSw); go_simp; try with_reducible rfl)
                  try simp only [Act.put, List.setIfInBounds_toArray, List.set_cons_zero, List.set_cons_succ]
                  refine wpAnyH_take (i := 8) (oi := { dst := some 37, op := Go.Op.slice 24 (Go.Operand.tmp 33) (some (Go.Operand.tmp 34)) (some (Go.Operand.tmp 36)) none, type := 24, pos := "l04_rings.go:122", after := #[{ on := 4, ground := Go.Ground.data }, { on := 5, ground := Go.Ground.data }, { on := 7, ground := Go.Ground.data }, { on := 3, ground := Go.Ground.guard }], guard := some (3, true) }) (v := ?vac8) rfl (by kernel_rfl) (by kernel_rfl) (by kernel_rfl) (fun _ _ _ h => h) (Or.inl ⟨by rfl, ?hac8⟩) hHeld ?rac8
                  case hac8 => (intro w hSw; (try dsimp only at hSw); go_simp; try with_reducible rfl)
                  try simp only [Act.put, List.setIfInBounds_toArray, List.set_cons_zero, List.set_cons_succ]
                  refine wpAnyH_take (i := 9) (oi := { dst := some 38, op := Go.Op.fieldAddr 32 (Go.Operand.tmp 5) 0, type := 0, pos := "l04_rings.go:122", after := #[{ on := 3, ground := Go.Ground.guard }], guard := some (3, true) }) (v := ?vac9) rfl (by kernel_rfl) (by kernel_rfl) (by kernel_rfl) (fun _ _ _ h => h) (Or.inl ⟨by rfl, ?hac9⟩) hHeld ?rac9
                  case hac9 => (intro w hSw; (try dsimp only at hSw); go_simp; try with_reducible rfl)
                  try simp only [Act.put, List.setIfInBounds_toArray, List.set_cons_zero, List.set_cons_succ]
                  refine wpAnyH_take (i := 10) (oi := { dst := some 39, op := Go.Op.load 30 (Go.Operand.tmp 38), type := 30, pos := "l04_rings.go:122", after := #[{ on := 9, ground := Go.Ground.data }, { on := 3, ground := Go.Ground.guard }], guard := some (3, true) }) (v := ?vac10) rfl (by kernel_rfl) (by kernel_rfl) (by kernel_rfl) (fun _ _ _ h => h) (Or.inl ⟨by rfl, ?hac10⟩) hHeld ?rac10
                  case hac10 => (intro w hSw; (try dsimp only at hSw); go_simp; try with_reducible rfl)
                  try simp only [Act.put, List.setIfInBounds_toArray, List.set_cons_zero, List.set_cons_succ]
                  refine wpAnyH_take (i := 11) (oi := { dst := some 40, op := Go.Op.indexAddr 30 (Go.Operand.tmp 39) (Go.Operand.const (Go.Value.int Go.IntKind.i64 0)), type := 0, pos := "l04_rings.go:122", after := #[{ on := 10, ground := Go.Ground.data }, { on := 3, ground := Go.Ground.guard }], guard := some (3, true) }) (v := ?vac11) rfl (by kernel_rfl) (by kernel_rfl) (by kernel_rfl) (fun _ _ _ h => h) (Or.inl ⟨by rfl, ?hac11⟩) hHeld ?rac11
                  case hac11 => (intro w hSw; (try dsimp only at hSw); go_simp; try with_reducible rfl)
                  try simp only [Act.put, List.setIfInBounds_toArray, List.set_cons_zero, List.set_cons_succ]
                  refine wpAnyH_take (i := 12) (oi := { dst := some 41, op := Go.Op.load 26 (Go.Operand.tmp 40), type := 26, pos := "l04_rings.go:122", after := #[{ on := 11, ground := Go.Ground.data }, { on := 3, ground := Go.Ground.guard }], guard := some (3, true) }) (v := ?vac12) rfl (by kernel_rfl) (by kernel_rfl) (by kernel_rfl) (fun _ _ _ h => h) (Or.inl ⟨by rfl, ?hac12⟩) hHeld ?rac12
                  case hac12 => (intro w hSw; (try dsimp only at hSw); go_simp; try with_reducible rfl)
                  try simp only [Act.put, List.setIfInBounds_toArray, List.set_cons_zero, List.set_cons_succ]
                  refine wpAnyH_ready (rs := [13]) (by kernel_rfl) (by simp) ?_
                  refine AllReadyH.cons (o := { dst := some 42, op := Go.Op.call { callee := Go.Callee.value (Go.Operand.func 7), args := #[Go.Operand.tmp 37, Go.Operand.tmp 41], argTypes := #[24, 26] }, type := 2, pos := "l04_rings.go:122", after := #[{ on := 8, ground := Go.Ground.data }, { on := 12, ground := Go.Ground.data }, { on := 3, ground := Go.Ground.chain }, { on := 3, ground := Go.Ground.guard }], guard := some (3, true) }) rfl (fun K hK => ?_) AllReadyH.nil
                  go_simp
                  refine (insideR_any _ _ _ [l[j]] _ px py _ (hS _ hHeld) rfl HOK1.out hp0).mono ?_
                  rintro e w4 ⟨he4, hb4⟩
                  rw [Hz.out] at he4
                  subst he4
                  go_wp2_with fail
                  refine hK.out _ _ (bel_step hHeld hb4) (fun hHeld' => ?_)
                  clear hK K hHeld
                  have hHeld := hHeld'
                  clear hHeld'
                  try simp only [Act.put, List.setIfInBounds_toArray, List.set_cons_zero, List.set_cons_succ]
                  refine wpAnyH_take (i := 14) (oi := { dst := some 43, op := Go.Op.binOp Go.BinOp.eql 2 (Go.Operand.tmp 42) (Go.Operand.const (Go.Value.int Go.IntKind.i64 1)) 2, type := 4, pos := "l04_rings.go:122", after := #[{ on := 13, ground := Go.Ground.data }, { on := 3, ground := Go.Ground.guard }], guard := some (3, true) }) (v := ?vac14) rfl (by kernel_rfl) (by kernel_rfl) (by kernel_rfl) (fun _ _ _ h => h) (Or.inl ⟨by rfl, ?hac14⟩) hHeld ?rac14
                  case hac14 => (intro w hSw; (try dsimp only at hSw); go_simp; try with_reducible rfl)
                  try simp only [Act.put, List.setIfInBounds_toArray, List.set_cons_zero, List.set_cons_succ]
                  refine wpAnyH_take (i := 15) (oi := { dst := some 44, op := Go.Op.pick (Go.Operand.tmp 32) (Go.Operand.tmp 43) (Go.Operand.const (Go.Value.bool false)), type := 4, pos := "l04_rings.go:122", after := #[{ on := 3, ground := Go.Ground.data }, { on := 14, ground := Go.Ground.data }], guard := none }) (v := ?vac15) rfl (by kernel_rfl) (by kernel_rfl) (by kernel_rfl) (fun _ _ _ h => h) (Or.inl ⟨by rfl, ?hac15⟩) hHeld ?rac15
                  case hac15 => (intro w hSw; (try dsimp only at hSw); go_simp; try with_reducible rfl)
                  try simp only [Act.put, List.setIfInBounds_toArray, List.set_cons_zero, List.set_cons_succ]
                  refine wpAnyH_done (by kernel_rfl) ?_ _
                  refine NoPanic.normal ?_
                  have hr4 := row_bel HRW.out hHeld
                  have X4 := Xr.bel hHeld
                  have h4 : Bel V1 w4 := bel_step hBr hHeld
                  have cD : w4.cell? ⟨V1.heap.size, k, none⟩ = some (.int .i64 (D : Int)) := by rw [hr4.cell hlt, dep_at, HD.out]
                  have zD := hr4.frozen k
                  obtain ⟨w5, Hw5⟩ : ∃ V : World, Hid (V = w4.setCell ⟨V1.heap.size, k, none⟩ (.int .i64 ((D : Int) + 1))) := ⟨_, (rfl : w4.setCell ⟨V1.heap.size, k, none⟩ (.int .i64 ((D : Int) + 1)) = _)⟩
                  have HR5 : Hid (w5.rowIs V1.heap.size 2 n (dep l k (j + 1))) := by
                    rw [Hw5.out]
                    exact (hr4.set k (.int .i64 ((D : Int) + 1))).congr fun i _ => dep_set (by rw [HN.out]; rfl) i
                  have X5 : Blk w5 rr [.slice (some ⟨b1, o1, none⟩) m k0, .bool l[k].inner] := by rw [Hw5.out]; exact X4.far hVR
                  have h5 : Bel V1 w5 := by rw [Hw5.out]; exact bel_set h4 (Nat.le_refl _) _
                  clear hRR hS hb4 hHeld hr4 X4 Xr
                  go_wp2
                  rw [← Hw5.out]
                  go_roundw
                  case rel => exact ⟨j + 1, by omega, by go_num, HR5.out, X5, h5⟩
                  case measure => simp [intOf]; omega
                · have hzb : (z == 1) = false := by simpa using hz
                  have hzd : decide (z = 1) = false := by simpa using hz
                  rw [hzd] at HN
                  go_wp2
                  refine wp_region_noPanic ?_
                  refine wp_region_held_drew (S := fun w' => Bel wr w') (by kernel_rfl) (Bel.drew g0) (fun hHeld => ?_)
                  refine wpAnyH_take (i := 0) (oi := { dst := some 29, op := Go.Op.move (Go.Operand.tmp 6), type := 3, pos := "l04_rings.go:122", after := #[], guard := none }) (v := ?vad0) rfl (by kernel_rfl) (by kernel_rfl) (by kernel_rfl) (fun _ _ _ h => h) (Or.inl ⟨by rfl, ?had0⟩) hHeld ?rad0
                  case had0 => (intro w hSw; (try dsimp only at hSw); go_simp; try with_reducible rfl)
                  try simp only [Act.put, List.setIfInBounds_toArray, List.set_cons_zero, List.set_cons_succ]
                  refine wpAnyH_take (i := 1) (oi := { dst := some 30, op := Go.Op.move (Go.Operand.tmp 4), type := 3, pos := "l04_rings.go:122", after := #[], guard := none }) (v := ?vad1) rfl (by kernel_rfl) (by kernel_rfl) (by kernel_rfl) (fun _ _ _ h => h) (Or.inl ⟨by rfl, ?had1⟩) hHeld ?rad1
                  case had1 => (intro w hSw; (try dsimp only at hSw); go_simp; try with_reducible rfl)
                  try simp only [Act.put, List.setIfInBounds_toArray, List.set_cons_zero, List.set_cons_succ]
                  refine wpAnyH_take (i := 2) (oi := { dst := some 31, op := Go.Op.binOp Go.BinOp.neq 3 (Go.Operand.tmp 29) (Go.Operand.tmp 30) 3, type := 4, pos := "l04_rings.go:122", after := #[{ on := 0, ground := Go.Ground.data }, { on := 1, ground := Go.Ground.data }], guard := none }) (v := ?vad2) rfl (by kernel_rfl) (by kernel_rfl) (by kernel_rfl) (fun _ _ _ h => h) (Or.inl ⟨by rfl, ?had2⟩) hHeld ?rad2
                  case had2 => (intro w hSw; (try dsimp only at hSw); go_simp; try with_reducible rfl)
                  try simp only [Act.put, List.setIfInBounds_toArray, List.set_cons_zero, List.set_cons_succ]
                  refine wpAnyH_take (i := 3) (oi := { dst := some 32, op := Go.Op.move (Go.Operand.tmp 31), type := 4, pos := "l04_rings.go:122", after := #[{ on := 2, ground := Go.Ground.data }], guard := none }) (v := ?vad3) rfl (by kernel_rfl) (by kernel_rfl) (by kernel_rfl) (fun _ _ _ h => h) (Or.inl ⟨by rfl, ?had3⟩) hHeld ?rad3
                  case had3 => (intro w hSw; (try dsimp only at hSw); go_simp; try with_reducible rfl)
                  try simp only [Act.put, List.setIfInBounds_toArray, List.set_cons_zero, List.set_cons_succ]
                  refine wpAnyH_take (i := 4) (oi := { dst := some 33, op := Go.Op.move (Go.Operand.tmp 0), type := 24, pos := "l04_rings.go:122", after := #[{ on := 3, ground := Go.Ground.guard }], guard := some (3, true) }) (v := ?vad4) rfl (by kernel_rfl) (by kernel_rfl) (by kernel_rfl) (fun _ _ _ h => h) (Or.inl ⟨by rfl, ?had4⟩) hHeld ?rad4
                  case had4 => (intro w hSw; (try dsimp only at hSw); go_simp; try with_reducible rfl)
                  try simp only [Act.put, List.setIfInBounds_toArray, List.set_cons_zero, List.set_cons_succ]
                  refine wpAnyH_take (i := 5) (oi := { dst := some 34, op := Go.Op.move (Go.Operand.tmp 6), type := 3, pos := "l04_rings.go:122", after := #[{ on := 3, ground := Go.Ground.guard }], guard := some (3, true) }) (v := ?vad5) rfl (by kernel_rfl) (by kernel_rfl) (by kernel_rfl) (fun _ _ _ h => h) (Or.inl ⟨by rfl, ?had5⟩) hHeld ?rad5
                  case had5 => (intro w hSw; (try dsimp only at hSw); go_simp; try with_reducible rfl)
                  try simp only [Act.put, List.setIfInBounds_toArray, List.set_cons_zero, List.set_cons_succ]
                  refine wpAnyH_take (i := 6) (oi := { dst := some 35, op := Go.Op.move (Go.Operand.tmp 6), type := 3, pos := "l04_rings.go:122", after := #[{ on := 3, ground := Go.Ground.guard }], guard := some (3, true) }) (v := ?vad6) rfl (by kernel_rfl) (by kernel_rfl) (by kernel_rfl) (fun _ _ _ h => h) (Or.inl ⟨by rfl, ?had6⟩) hHeld ?rad6
                  case had6 => (intro w hSw; (try dsimp only at hSw); go_simp; try with_reducible rfl)
                  try simp only [Act.put, List.setIfInBounds_toArray, List.set_cons_zero, List.set_cons_succ]
                  refine wpAnyH_take (i := 7) (oi := { dst := some 36, op := Go.Op.binOp Go.BinOp.add 3 (Go.Operand.tmp 35) (Go.Operand.const (Go.Value.int Go.IntKind.i64 1)) 3, type := 3, pos := "l04_rings.go:122", after := #[{ on := 6, ground := Go.Ground.data }, { on := 3, ground := Go.Ground.guard }], guard := some (3, true) }) (v := ?vad7) rfl (by kernel_rfl) (by kernel_rfl) (by kernel_rfl) (fun _ _ _ h => h) (Or.inl ⟨by rfl, ?had7⟩) hHeld ?rad7
                  case had7 => (intro w hSw; (try dsimp only at hSw); go_simp; try with_reducible rfl)
                  try simp only [Act.put, List.setIfInBounds_toArray, List.set_cons_zero, List.set_cons_succ]
                  refine wpAnyH_take (i := 8) (oi := { dst := some 37, op := Go.Op.slice 24 (Go.Operand.tmp 33) (some (Go.Operand.tmp 34)) (some (Go.Operand.tmp 36)) none, type := 24, pos := "l04_rings.go:122", after := #[{ on := 4, ground := Go.Ground.data }, { on := 5, ground := Go.Ground.data }, { on := 7, ground := Go.Ground.data }, { on := 3, ground := Go.Ground.guard }], guard := some (3, true) }) (v := ?vad8) rfl (by kernel_rfl) (by kernel_rfl) (by kernel_rfl) (fun _ _ _ h => h) (Or.inl ⟨by rfl, ?had8⟩) hHeld ?rad8
                  case had8 => (intro w hSw; (try dsimp only at hSw); go_simp; try with_reducible rfl)
                  try simp only [Act.put, List.setIfInBounds_toArray, List.set_cons_zero, List.set_cons_succ]
                  refine wpAnyH_take (i := 9) (oi := { dst := some 38, op := Go.Op.fieldAddr 32 (Go.Operand.tmp 5) 0, type := 0, pos := "l04_rings.go:122", after := #[{ on := 3, ground := Go.Ground.guard }], guard := some (3, true) }) (v := ?vad9) rfl (by kernel_rfl) (by kernel_rfl) (by kernel_rfl) (fun _ _ _ h => h) (Or.inl ⟨by rfl, ?had9⟩) hHeld ?rad9
                  case had9 => (intro w hSw; (try dsimp only at hSw); go_simp; try with_reducible rfl)
                  try simp only [Act.put, List.setIfInBounds_toArray, List.set_cons_zero, List.set_cons_succ]
                  refine wpAnyH_take (i := 10) (oi := { dst := some 39, op := Go.Op.load 30 (Go.Operand.tmp 38), type := 30, pos := "l04_rings.go:122", after := #[{ on := 9, ground := Go.Ground.data }, { on := 3, ground := Go.Ground.guard }], guard := some (3, true) }) (v := ?vad10) rfl (by kernel_rfl) (by kernel_rfl) (by kernel_rfl) (fun _ _ _ h => h) (Or.inl ⟨by rfl, ?had10⟩) hHeld ?rad10
                  case had10 => (intro w hSw; (try dsimp only at hSw); go_simp; try with_reducible rfl)
                  try simp only [Act.put, List.setIfInBounds_toArray, List.set_cons_zero, List.set_cons_succ]
                  refine wpAnyH_take (i := 11) (oi := { dst := some 40, op := Go.Op.indexAddr 30 (Go.Operand.tmp 39) (Go.Operand.const (Go.Value.int Go.IntKind.i64 0)), type := 0, pos := "l04_rings.go:122", after := #[{ on := 10, ground := Go.Ground.data }, { on := 3, ground := Go.Ground.guard }], guard := some (3, true) }) (v := ?vad11) rfl (by kernel_rfl) (by kernel_rfl) (by kernel_rfl) (fun _ _ _ h => h) (Or.inl ⟨by rfl, ?had11⟩) hHeld ?rad11
                  case had11 => (intro w hSw; (try dsimp only at hSw); go_simp; try with_reducible rfl)
                  try simp only [Act.put, List.setIfInBounds_toArray, List.set_cons_zero, List.set_cons_succ]
                  refine wpAnyH_take (i := 12) (oi := { dst := some 41, op := Go.Op.load 26 (Go.Operand.tmp 40), type := 26, pos := "l04_rings.go:122", after := #[{ on := 11, ground := Go.Ground.data }, { on := 3, ground := Go.Ground.guard }], guard := some (3, true) }) (v := ?vad12) rfl (by kernel_rfl) (by kernel_rfl) (by kernel_rfl) (fun _ _ _ h => h) (Or.inl ⟨by rfl, ?had12⟩) hHeld ?rad12
                  case had12 => (intro w hSw; (try dsimp only at hSw); go_simp; try with_reducible rfl)
                  try simp only [Act.put, List.setIfInBounds_toArray, List.set_cons_zero, List.set_cons_succ]
                  refine wpAnyH_ready (rs := [13]) (by kernel_rfl) (by simp) ?_
                  refine AllReadyH.cons (o := { dst := some 42, op := Go.Op.call { callee := Go.Callee.value (Go.Operand.func 7), args := #[Go.Operand.tmp 37, Go.Operand.tmp 41], argTypes := #[24, 26] }, type := 2, pos := "l04_rings.go:122", after := #[{ on := 8, ground := Go.Ground.data }, { on := 12, ground := Go.Ground.data }, { on := 3, ground := Go.Ground.chain }, { on := 3, ground := Go.Ground.guard }], guard := some (3, true) }) rfl (fun K hK => ?_) AllReadyH.nil
                  go_simp
                  refine (insideR_any _ _ _ [l[j]] _ px py _ (hS _ hHeld) rfl HOK1.out hp0).mono ?_
                  rintro e w4 ⟨he4, hb4⟩
                  rw [Hz.out] at he4
                  subst he4
                  go_wp2_with fail
                  refine hK.out _ _ (bel_step hHeld hb4) (fun hHeld' => ?_)
                  clear hK K hHeld
                  have hHeld := hHeld'
                  clear hHeld'
                  try simp only [Act.put, List.setIfInBounds_toArray, List.set_cons_zero, List.set_cons_succ]
                  refine wpAnyH_take (i := 14) (oi := { dst := some 43, op := Go.Op.binOp Go.BinOp.eql 2 (Go.Operand.tmp 42) (Go.Operand.const (Go.Value.int Go.IntKind.i64 1)) 2, type := 4, pos := "l04_rings.go:122", after := #[{ on := 13, ground := Go.Ground.data }, { on := 3, ground := Go.Ground.guard }], guard := some (3, true) }) (v := ?vad14) rfl (by kernel_rfl) (by kernel_rfl) (by kernel_rfl) (fun _ _ _ h => h) (Or.inl ⟨by rfl, ?had14⟩) hHeld ?rad14
                  case had14 => (intro w hSw; (try dsimp only at hSw); go_simp; try with_reducible rfl)
                  try simp only [Act.put, List.setIfInBounds_toArray, List.set_cons_zero, List.set_cons_succ]
                  refine wpAnyH_take (i := 15) (oi := { dst := some 44, op := Go.Op.pick (Go.Operand.tmp 32) (Go.Operand.tmp 43) (Go.Operand.const (Go.Value.bool false)), type := 4, pos := "l04_rings.go:122", after := #[{ on := 3, ground := Go.Ground.data }, { on := 14, ground := Go.Ground.data }], guard := none }) (v := ?vad15) rfl (by kernel_rfl) (by kernel_rfl) (by kernel_rfl) (fun _ _ _ h => h) (Or.inl ⟨by rfl, ?had15⟩) hHeld ?rad15
                  case had15 => (intro w hSw; (try dsimp only at hSw); go_simp; try with_reducible rfl)
                  try simp only [Act.put, List.setIfInBounds_toArray, List.set_cons_zero, List.set_cons_succ]
                  refine wpAnyH_done (by kernel_rfl) ?_ _
                  refine NoPanic.normal ?_
                  have HR4 : Hid (w4.rowIs V1.heap.size 2 n (dep l k (j + 1))) := (row_bel HRW.out hHeld).congr fun i _ => dep_same (by rw [HN.out, HD.out]; rfl) i
                  have X4 := Xr.bel hHeld
                  have h4 : Bel V1 w4 := bel_step hBr hHeld
                  clear hRR hS hb4 hHeld Xr
                  go_wp2
                  go_roundw
                  case rel => exact ⟨j + 1, by omega, by go_num, HR4.out, X4, h4⟩
                  case measure => simp [intOf]; omega
            · have e : n = j := by omega
              subst e
              have HDn : Hid (wr.rowIs V1.heap.size 2 n (dep l (k + 1) 0)) := hr.congr fun i _ => dep_next HZ.out i
              clear hr Xr
              go_wp2
              go_roundw
              case rel => exact ⟨k + 1, by omega, by go_num, HDn.out, hBr⟩
              case measure => simp [intOf]; omega
      · have e : n = k := by omega
        subst e
        have HO := row_ints hr Hn.out hm40 (base := w.heap.size) hb1.out.size
        have HOO : Hid _ := HO
        clear hr HO hT1
        go_wp2
        go_ret
        exact ⟨_, rfl, by rw [HQ.out]; exact HOO.out, bel_step hb1 hBr⟩
end Go.Proofs.Ytkpgcnfokohhiaa

