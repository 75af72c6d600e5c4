/-
  Whether a rule applies, in the model: contract.
-/
import Derived.Test.YtbebgfhblalghaaStyJ
namespace Go.Proofs.Ytbebgfhblalghaa
open Go.RowKit Go.Maps

theorem thrB_step {ts : List TagD} {key : ByteArray} {k : Nat} (hk : k < ts.length) : thrB (ts.take (k + 1)) key = (thrB (ts.take k) key || (ts[k].k.toList == key.toList)) := by
  unfold thrB; rw [List.take_succ_eq_append_getElem hk, List.any_append]; simp

set_option maxRecDepth 100000 in
set_option maxHeartbeats 8000000 in
theorem specApplies_any (r : RuleD) (a : Option Addr) (n c : Nat) (bs : List Nat) (at_ : Option Addr) (nt ct : Nat) (l : List TagD) (bt : List Nat) (z : Int) (w : World) (hR : Tests w a r.tests bs) (hn : r.tests.length = n) (hm : n ≤ 1048576) (hT : Tags w at_ l bt) (hnt : l.length = nt) (hmt : nt ≤ 1048576) :
    Calls Try.prog 44 #[rulV r a n c, .slice at_ nt ct, .int .i64 z] w fun e w' => e = .returned (.bool (appB r l z)) ∧ Bel w w' := by
  have Hn : Hid (r.tests.length = n) := hn
  have Hnt : Hid (l.length = nt) := hnt
  obtain ⟨W, HW⟩ : ∃ W, Hid (W = w.alloc (.cells #[.int .i64 r.low, .int .i64 r.high, .slice a n c, .bool r.hide, .string r.col, .int .i64 r.wd, .int .i64 r.lay] 68)) := ⟨_, (rfl : w.alloc (.cells #[.int .i64 r.low, .int .i64 r.high, .slice a n c, .bool r.hide, .string r.col, .int .i64 r.wd, .int .i64 r.lay] 68) = _)⟩
  have hBW : Bel w W := by rw [HW.out]; exact bel_alloc (Bel.refl _) _
  have XW : Blk W w.heap.size (rulL r a n c) := by rw [HW.out]; exact Blk.new w (rulL r a n c) _
  clear hn hnt
  by_cases k1 : r.low ≤ z
  · have k1' : ¬ z < r.low := by omega
    by_cases k2 : z ≤ r.high
    · have k2' : ¬ r.high < z := by omega
      have HQ : Hid (appB r l z = r.tests.all (tstB l)) := (by simp [appB, k1, k2] : _ = _)
      have hRW := hR.bel testE hBW
      have hTW := hT.bel tagE hBW
      clear hR hT
      go_enter Try.func44, Try.ntmps44
      go_wp2
      rw [← HW.out]
      go_loopw [7] (fun i wr => ∃ k : Nat, k ≤ n ∧ i = .int .i64 k ∧ (∀ j (h : j < r.tests.length), j < k → tstB l r.tests[j] = true) ∧ Bel W wr) (fun i _ => n - (intOf i).toNat)
      case atStart => exact ⟨0, Nat.zero_le _, rfl, fun j _ hj => absurd hj (Nat.not_lt_zero _), Bel.refl _⟩
      case round =>
        obtain ⟨k, hk, rfl, hall, hbel⟩ := hrel
        have H : Hid (∀ j (h : j < r.tests.length), j < k → tstB l r.tests[j] = true) := hall
        clear hall
        have Xr := XW.bel hbel
        have x2 : wr.cell? ⟨w.heap.size, 2, none⟩ = some (.slice a n c) := Xr.cell 2 (by simp [rulL])
        have xl := Xr.lt
        by_cases hlt : k < n
        · have hkl : k < r.tests.length := by rw [Hn.out]; exact hlt
          obtain ⟨b, off, f, rfl, hb, hx⟩ := (hRW.bel testE hbel).out hkl
          obtain ⟨_, _, _, _, c0, c1, c2⟩ := hx k hkl
          obtain ⟨d, Hd⟩ : ∃ d, Hid (d = r.tests[k]) := ⟨_, (rfl : r.tests[k] = _)⟩
          rw [← Hd.out] at c0 c1 c2
          have HS : Hid (tstB l d = true → ∀ j (h : j < r.tests.length), j < k + 1 → tstB l r.tests[j] = true) := fun ht j h hj => by
            by_cases e : j = k
            · subst e; rw [← Hd.out]; exact ht
            · exact H.out j h (by omega)
          have HF : Hid (tstB l d = false → false = appB r l z) := fun ht => by
            rw [HQ.out]
            exact (List.all_eq_false.2 ⟨r.tests[k], List.getElem_mem hkl, by rw [← Hd.out, ht]; decide⟩).symm
          obtain ⟨V, HV⟩ : ∃ V, Hid (V = wr.alloc (.cells #[.string d.k, .int .i64 d.op, .string d.v] 155)) := ⟨_, (rfl : wr.alloc (.cells #[.string d.k, .int .i64 d.op, .string d.v] 155) = _)⟩
          have hbV : Bel wr V := by rw [HV.out]; exact bel_alloc (Bel.refl _) _
          have XV : Blk V wr.heap.size [.string d.k, .int .i64 d.op, .string d.v] := by rw [HV.out]; exact Blk.new wr [.string d.k, .int .i64 d.op, .string d.v] _
          have hTV := hTW.bel tagE (bel_step hbel hbV)
          have hlt' : (k : Int) < (n : Int) := by omega
          clear hx Xr
          go_wp2_with fail
          rw [← HV.out]
          refine (specTagOf_any _ _ _ l bt d.k _ hTV Hnt.out hmt).mono ?_
          rintro e w1 ⟨rfl, hb1⟩
          obtain ⟨T, HT⟩ : ∃ T, Hid (tagOfL l d.k = T) := ⟨_, (rfl : tagOfL l d.k = _)⟩
          rw [HT.out]
          have X1 := XV.bel hb1
          have hT1 := hTV.bel tagE hb1
          have hB1 := bel_step hbel (bel_step hbV hb1)
          obtain ⟨Q, HQs⟩ : ∃ Q, Hid (wr.heap.size = Q) := ⟨_, (rfl : wr.heap.size = _)⟩
          rw [HQs.out] at X1 ⊢
          clear c0 c1 c2 hb XV hTV hbV hb1 x2 xl hbel HV
          clear HQs
          clear wr
          go_wp2
          go_loopw [10, 11] (fun t i wr => ∃ k2 : Nat, k2 ≤ nt ∧ i = .int .i64 k2 ∧ t = .bool (thrB (l.take k2) d.k) ∧ Bel w1 wr) (fun _ i _ => nt - (intOf i).toNat)
          case atStart => exact ⟨0, Nat.zero_le _, rfl, rfl, Bel.refl _⟩
          case round =>
            obtain ⟨k2, hk2, rfl, rfl, hbel⟩ := hrel
            have X2 := X1.bel hbel
            have q0 : wr.cell? ⟨Q, 0, none⟩ = some (.string d.k) := X2.cell 0 (by simp)
            have q1 : wr.cell? ⟨Q, 1, none⟩ = some (.int .i64 d.op) := X2.cell 1 (by simp)
            have q2 : wr.cell? ⟨Q, 2, none⟩ = some (.string d.v) := X2.cell 2 (by simp)
            have ql := X2.lt
            have hBB := bel_step hB1 hbel
            by_cases hl2 : k2 < nt
            · have hkl2 : k2 < l.length := by rw [Hnt.out]; exact hl2
              obtain ⟨b2, off2, f2, rfl, hb2, hx2⟩ := (hT1.bel tagE hbel).out hkl2
              obtain ⟨_, _, _, t0, _⟩ := hx2 k2 hkl2
              have HST : Hid (thrB (l.take (k2 + 1)) d.k = (thrB (l.take k2) d.k || (l[k2].k.toList == d.k.toList))) := thrB_step hkl2
              obtain ⟨K, HK⟩ : ∃ K, Hid (l[k2].k = K) := ⟨_, (rfl : l[k2].k = _)⟩
              obtain ⟨DK, HDK⟩ : ∃ K, Hid (d.k = K) := ⟨_, (rfl : d.k = _)⟩
              rw [HK.out] at t0 HST
              rw [HDK.out] at q0 HST ⊢
              have hl2' : (k2 : Int) < (nt : Int) := by omega
              have hk20 : ¬ ((k2 : Int) < 0) := by omega
              have hRR : ∀ w', Bel wr w' → w'.cell? ⟨b2, off2 + k2 * 2, none⟩ = some (.string K) ∧ w'.cell? ⟨Q, 0, none⟩ = some (.string DK) := fun w' h => ⟨bel_cellM h hb2 t0, bel_cellM h ql q0⟩
              have g0 : Bel wr wr := Bel.refl _
              clear hx2 t0 q0 q1 q2 X2
              rcases Bool.eq_false_or_eq_true (thrB (l.take k2) DK) with ht | ht
              · rw [ht] at HST ⊢
                go_wp2
                refine wp_region_noPanic ?_
                refine wp_region_held_drew (S := fun w' => Bel wr w') (by kernel_rfl) (Bel.drew g0) (fun hHeld => ?_)
                refine wpAnyH_take (i := 0) (oi := { dst := some 44, op := Go.Op.move (Go.Operand.tmp 10), type := 4, pos := "l07_style.go:221", after := #[], guard := none }) (v := ?vab0) rfl (by kernel_rfl) (by kernel_rfl) (by kernel_rfl) (fun _ _ _ h => h) (Or.inl ⟨by rfl, ?hab0⟩) hHeld ?rab0
                case hab0 => (intro w hSw; (try dsimp only at hSw); go_simp; try with_reducible rfl)
                try simp only [Act.put, List.setIfInBounds_toArray, List.set_cons_zero, List.set_cons_succ]
                refine wpAnyH_take (i := 1) (oi := { dst := some 45, op := Go.Op.move (Go.Operand.tmp 44), type := 4, pos := "l07_style.go:221", after := #[{ on := 0, ground := Go.Ground.data }], guard := none }) (v := ?vab1) rfl (by kernel_rfl) (by kernel_rfl) (by kernel_rfl) (fun _ _ _ h => h) (Or.inl ⟨by rfl, ?hab1⟩) hHeld ?rab1
                case hab1 => (intro w hSw; (try dsimp only at hSw); go_simp; try with_reducible rfl)
                try simp only [Act.put, List.setIfInBounds_toArray, List.set_cons_zero, List.set_cons_succ]
                refine wpAnyH_take (i := 2) (oi := { dst := some 46, op := Go.Op.move (Go.Operand.tmp 1), type := 70, pos := "l07_style.go:221", after := #[{ on := 1, ground := Go.Ground.guard }], guard := some (1, false) }) (v := undef) rfl (by kernel_rfl) (by kernel_rfl) (by kernel_rfl) (fun _ _ _ h => h) (Or.inr ⟨by rfl, rfl⟩) hHeld ?_
                try simp only [Act.put, List.setIfInBounds_toArray, List.set_cons_zero, List.set_cons_succ]
                refine wpAnyH_take (i := 3) (oi := { dst := some 47, op := Go.Op.move (Go.Operand.tmp 11), type := 3, pos := "l07_style.go:221", after := #[{ on := 1, ground := Go.Ground.guard }], guard := some (1, false) }) (v := undef) rfl (by kernel_rfl) (by kernel_rfl) (by kernel_rfl) (fun _ _ _ h => h) (Or.inr ⟨by rfl, rfl⟩) hHeld ?_
                try simp only [Act.put, List.setIfInBounds_toArray, List.set_cons_zero, List.set_cons_succ]
                refine wpAnyH_take (i := 4) (oi := { dst := some 48, op := Go.Op.indexAddr 70 (Go.Operand.tmp 46) (Go.Operand.tmp 47), type := 0, pos := "l07_style.go:221", after := #[{ on := 2, ground := Go.Ground.data }, { on := 3, ground := Go.Ground.data }, { on := 1, ground := Go.Ground.guard }], guard := some (1, false) }) (v := undef) rfl (by kernel_rfl) (by kernel_rfl) (by kernel_rfl) (fun _ _ _ h => h) (Or.inr ⟨by rfl, rfl⟩) hHeld ?_
                try simp only [Act.put, List.setIfInBounds_toArray, List.set_cons_zero, List.set_cons_succ]
                refine wpAnyH_take (i := 5) (oi := { dst := some 49, op := Go.Op.fieldAddr 157 (Go.Operand.tmp 48) 0, type := 0, pos := "l07_style.go:221", after := #[{ on := 4, ground := Go.Ground.data }, { on := 1, ground := Go.Ground.guard }], guard := some (1, false) }) (v := undef) rfl (by kernel_rfl) (by kernel_rfl) (by kernel_rfl) (fun _ _ _ h => h) (Or.inr ⟨by rfl, rfl⟩) hHeld ?_
                try simp only [Act.put, List.setIfInBounds_toArray, List.set_cons_zero, List.set_cons_succ]
                refine wpAnyH_take (i := 6) (oi := { dst := some 50, op := Go.Op.load 9 (Go.Operand.tmp 49), type := 9, pos := "l07_style.go:221", after := #[{ on := 5, ground := Go.Ground.data }, { on := 1, ground := Go.Ground.guard }], guard := some (1, false) }) (v := undef) rfl (by kernel_rfl) (by kernel_rfl) (by kernel_rfl) (fun _ _ _ h => h) (Or.inr ⟨by rfl, rfl⟩) hHeld ?_
                try simp only [Act.put, List.setIfInBounds_toArray, List.set_cons_zero, List.set_cons_succ]
                refine wpAnyH_take (i := 7) (oi := { dst := some 51, op := Go.Op.fieldAddr 155 (Go.Operand.tmp 8) 0, type := 0, pos := "l07_style.go:221", after := #[{ on := 1, ground := Go.Ground.guard }], guard := some (1, false) }) (v := undef) rfl (by kernel_rfl) (by kernel_rfl) (by kernel_rfl) (fun _ _ _ h => h) (Or.inr ⟨by rfl, rfl⟩) hHeld ?_
                try simp only [Act.put, List.setIfInBounds_toArray, List.set_cons_zero, List.set_cons_succ]
                refine wpAnyH_take (i := 8) (oi := { dst := some 52, op := Go.Op.load 9 (Go.Operand.tmp 51), type := 9, pos := "l07_style.go:221", after := #[{ on := 7, ground := Go.Ground.data }, { on := 1, ground := Go.Ground.guard }], guard := some (1, false) }) (v := undef) rfl (by kernel_rfl) (by kernel_rfl) (by kernel_rfl) (fun _ _ _ h => h) (Or.inr ⟨by rfl, rfl⟩) hHeld ?_
                try simp only [Act.put, List.setIfInBounds_toArray, List.set_cons_zero, List.set_cons_succ]
                refine wpAnyH_take (i := 9) (oi := { dst := some 53, op := Go.Op.binOp Go.BinOp.eql 9 (Go.Operand.tmp 50) (Go.Operand.tmp 52) 9, type := 4, pos := "l07_style.go:221", after := #[{ on := 6, ground := Go.Ground.data }, { on := 8, ground := Go.Ground.data }, { on := 1, ground := Go.Ground.guard }], guard := some (1, false) }) (v := undef) rfl (by kernel_rfl) (by kernel_rfl) (by kernel_rfl) (fun _ _ _ h => h) (Or.inr ⟨by rfl, rfl⟩) hHeld ?_
                try simp only [Act.put, List.setIfInBounds_toArray, List.set_cons_zero, List.set_cons_succ]
                refine wpAnyH_take (i := 10) (oi := { dst := some 54, op := Go.Op.pick (Go.Operand.tmp 45) (Go.Operand.const (Go.Value.bool true)) (Go.Operand.tmp 53), type := 4, pos := "l07_style.go:221", after := #[{ on := 1, ground := Go.Ground.data }, { on := 9, ground := Go.Ground.data }], guard := none }) (v := ?vab10) rfl (by kernel_rfl) (by kernel_rfl) (by kernel_rfl) (fun _ _ _ h => h) (Or.inl ⟨by rfl, ?hab10⟩) hHeld ?rab10
                case hab10 => (intro w hSw; (try dsimp only at hSw); go_simp; try with_reducible rfl)
                try simp only [Act.put, List.setIfInBounds_toArray, List.set_cons_zero, List.set_cons_succ]
                refine wpAnyH_take (i := 11) (oi := { dst := some 10, op := Go.Op.assign (Go.Operand.tmp 54), type := 4, pos := "l07_style.go:221", after := #[{ on := 10, ground := Go.Ground.data }, { on := 1, ground := Go.Ground.chain }, { on := 0, ground := Go.Ground.phase }, { on := 1, ground := Go.Ground.phase }, { on := 2, ground := Go.Ground.phase }, { on := 3, ground := Go.Ground.phase }, { on := 4, ground := Go.Ground.phase }, { on := 5, ground := Go.Ground.phase }, { on := 6, ground := Go.Ground.phase }, { on := 7, ground := Go.Ground.phase }, { on := 8, ground := Go.Ground.phase }, { on := 9, ground := Go.Ground.phase }, { on := 10, ground := Go.Ground.phase }], guard := none }) (v := ?vab11) rfl (by kernel_rfl) (by kernel_rfl) (by kernel_rfl) (fun _ _ _ h => h) (Or.inl ⟨by rfl, ?hab11⟩) hHeld ?rab11
                case hab11 => (intro w hSw; (try dsimp only at hSw); go_simp; try with_reducible rfl)
                try simp only [Act.put, List.setIfInBounds_toArray, List.set_cons_zero, List.set_cons_succ]
                refine wpAnyH_done (by kernel_rfl) ?_ _
                refine NoPanic.normal ?_
                have hB2 := bel_step hbel (Bel.drew g0)
                go_wp2
                go_roundw
                case rel => exact ⟨k2 + 1, by omega, by go_num, by rw [HST.out]; rfl, hB2⟩
                case measure => simp [intOf]; omega
              · rw [ht] at HST ⊢
                cases he : (K.toList == DK.toList)
                · rw [he] at HST
                  go_wp2
                  refine wp_region_noPanic ?_
                  refine wp_region_held_drew (S := fun w' => Bel wr w') (by kernel_rfl) (Bel.drew g0) (fun hHeld => ?_)
                  refine wpAnyH_take (i := 0) (oi := { dst := some 44, op := Go.Op.move (Go.Operand.tmp 10), type := 4, pos := "l07_style.go:221", after := #[], guard := none }) (v := ?vac0) rfl (by kernel_rfl) (by kernel_rfl) (by kernel_rfl) (fun _ _ _ h => h) (Or.inl ⟨by rfl, ?hac0⟩) hHeld ?rac0
                  case hac0 => (intro w hSw; (try dsimp only at hSw); go_simp; try with_reducible rfl)
                  try simp only [Act.put, List.setIfInBounds_toArray, List.set_cons_zero, List.set_cons_succ]
                  refine wpAnyH_take (i := 1) (oi := { dst := some 45, op := Go.Op.move (Go.Operand.tmp 44), type := 4, pos := "l07_style.go:221", after := #[{ on := 0, ground := Go.Ground.data }], guard := none }) (v := ?vac1) rfl (by kernel_rfl) (by kernel_rfl) (by kernel_rfl) (fun _ _ _ h => h) (Or.inl ⟨by rfl, ?hac1⟩) hHeld ?rac1
                  case hac1 => (intro w hSw; (try dsimp only at hSw); go_simp; try with_reducible rfl)
                  try simp only [Act.put, List.setIfInBounds_toArray, List.set_cons_zero, List.set_cons_succ]
                  refine wpAnyH_take (i := 2) (oi := { dst := some 46, op := Go.Op.move (Go.Operand.tmp 1), type := 70, pos := "l07_style.go:221", after := #[{ on := 1, ground := Go.Ground.guard }], guard := some (1, false) }) (v := ?vac2) rfl (by kernel_rfl) (by kernel_rfl) (by kernel_rfl) (fun _ _ _ h => h) (Or.inl ⟨by rfl, ?hac2⟩) hHeld ?rac2
                  case hac2 => (intro w hSw; (try dsimp only at hSw); go_simp; try with_reducible rfl)
                  try simp only [Act.put, List.setIfInBounds_toArray, List.set_cons_zero, List.set_cons_succ]
                  refine wpAnyH_take (i := 3) (oi := { dst := some 47, op := Go.Op.move (Go.Operand.tmp 11), type := 3, pos := "l07_style.go:221", after := #[{ on := 1, ground := Go.Ground.guard }], guard := some (1, false) }) (v := ?vac3) rfl (by kernel_rfl) (by kernel_rfl) (by kernel_rfl) (fun _ _ _ h => h) (Or.inl ⟨by rfl, ?hac3⟩) hHeld ?rac3
                  case hac3 => (intro w hSw; (try dsimp only at hSw); go_simp; try with_reducible rfl)
                  try simp only [Act.put, List.setIfInBounds_toArray, List.set_cons_zero, List.set_cons_succ]
                  refine wpAnyH_take (i := 4) (oi := { dst := some 48, op := Go.Op.indexAddr 70 (Go.Operand.tmp 46) (Go.Operand.tmp 47), type := 0, pos := "l07_style.go:221", after := #[{ on := 2, ground := Go.Ground.data }, { on := 3, ground := Go.Ground.data }, { on := 1, ground := Go.Ground.guard }], guard := some (1, false) }) (v := ?vac4) rfl (by kernel_rfl) (by kernel_rfl) (by kernel_rfl) (fun _ _ _ h => h) (Or.inl ⟨by rfl, ?hac4⟩) hHeld ?rac4
                  case hac4 => (intro w hSw; (try dsimp only at hSw); go_simp; try with_reducible rfl)
                  try simp only [Act.put, List.setIfInBounds_toArray, List.set_cons_zero, List.set_cons_succ]
                  refine wpAnyH_take (i := 5) (oi := { dst := some 49, op := Go.Op.fieldAddr 157 (Go.Operand.tmp 48) 0, type := 0, pos := "l07_style.go:221", after := #[{ on := 4, ground := Go.Ground.data }, { on := 1, ground := Go.Ground.guard }], guard := some (1, false) }) (v := ?vac5) rfl (by kernel_rfl) (by kernel_rfl) (by kernel_rfl) (fun _ _ _ h => h) (Or.inl ⟨by rfl, ?hac5⟩) hHeld ?rac5
                  case hac5 => (intro w hSw; (try dsimp only at hSw); go_simp; try with_reducible rfl)
                  try simp only [Act.put, List.setIfInBounds_toArray, List.set_cons_zero, List.set_cons_succ]
                  refine wpAnyH_take (i := 6) (oi := { dst := some 50, op := Go.Op.load 9 (Go.Operand.tmp 49), type := 9, pos := "l07_style.go:221", after := #[{ on := 5, ground := Go.Ground.data }, { on := 1, ground := Go.Ground.guard }], guard := some (1, false) }) (v := ?vac6) rfl (by kernel_rfl) (by kernel_rfl) (by kernel_rfl) (fun _ _ _ h => h) (Or.inl ⟨by rfl, ?hac6⟩) hHeld ?rac6
                  case hac6 => (intro w hSw; (try dsimp only at hSw); go_simp; try with_reducible rfl)
                  try simp only [Act.put, List.setIfInBounds_toArray, List.set_cons_zero, List.set_cons_succ]
                  refine wpAnyH_take (i := 7) (oi := { dst := some 51, op := Go.Op.fieldAddr 155 (Go.Operand.tmp 8) 0, type := 0, pos := "l07_style.go:221", after := #[{ on := 1, ground := Go.Ground.guard }], guard := some (1, false) }) (v := ?vac7) rfl (by kernel_rfl) (by kernel_rfl) (by kernel_rfl) (fun _ _ _ h => h) (Or.inl ⟨by rfl, ?hac7⟩) hHeld ?rac7
                  case hac7 => (intro w hSw; (try dsimp only at hSw); go_simp; try with_reducible rfl)
                  try simp only [Act.put, List.setIfInBounds_toArray, List.set_cons_zero, List.set_cons_succ]
                  refine wpAnyH_take (i := 8) (oi := { dst := some 52, op := Go.Op.load 9 (Go.Operand.tmp 51), type := 9, pos := "l07_style.go:221", after := #[{ on := 7, ground := Go.Ground.data }, { on := 1, ground := Go.Ground.guard }], guard := some (1, false) }) (v := ?vac8) rfl (by kernel_rfl) (by kernel_rfl) (by kernel_rfl) (fun _ _ _ h => h) (Or.inl ⟨by rfl, ?hac8⟩) hHeld ?rac8
                  case hac8 => (intro w hSw; (try dsimp only at hSw); go_simp; try with_reducible rfl)
                  try simp only [Act.put, List.setIfInBounds_toArray, List.set_cons_zero, List.set_cons_succ]
                  refine wpAnyH_take (i := 9) (oi := { dst := some 53, op := Go.Op.binOp Go.BinOp.eql 9 (Go.Operand.tmp 50) (Go.Operand.tmp 52) 9, type := 4, pos := "l07_style.go:221", after := #[{ on := 6, ground := Go.Ground.data }, { on := 8, ground := Go.Ground.data }, { on := 1, ground := Go.Ground.guard }], guard := some (1, false) }) (v := ?vac9) rfl (by kernel_rfl) (by kernel_rfl) (by kernel_rfl) (fun _ _ _ h => h) (Or.inl ⟨by rfl, ?hac9⟩) hHeld ?rac9
                  case hac9 => (intro w hSw; (try dsimp only at hSw); go_simp; try with_reducible rfl)
                  try simp only [Act.put, List.setIfInBounds_toArray, List.set_cons_zero, List.set_cons_succ]
                  refine wpAnyH_take (i := 10) (oi := { dst := some 54, op := Go.Op.pick (Go.Operand.tmp 45) (Go.Operand.const (Go.Value.bool true)) (Go.Operand.tmp 53), type := 4, pos := "l07_style.go:221", after := #[{ on := 1, ground := Go.Ground.data }, { on := 9, ground := Go.Ground.data }], guard := none }) (v := ?vac10) rfl (by kernel_rfl) (by kernel_rfl) (by kernel_rfl) (fun _ _ _ h => h) (Or.inl ⟨by rfl, ?hac10⟩) hHeld ?rac10
                  case hac10 => (intro w hSw; (try dsimp only at hSw); go_simp; try with_reducible rfl)
                  try simp only [Act.put, List.setIfInBounds_toArray, List.set_cons_zero, List.set_cons_succ]
                  refine wpAnyH_take (i := 11) (oi := { dst := some 10, op := Go.Op.assign (Go.Operand.tmp 54), type := 4, pos := "l07_style.go:221", after := #[{ on := 10, ground := Go.Ground.data }, { on := 1, ground := Go.Ground.chain }, { on := 0, ground := Go.Ground.phase }, { on := 1, ground := Go.Ground.phase }, { on := 2, ground := Go.Ground.phase }, { on := 3, ground := Go.Ground.phase }, { on := 4, ground := Go.Ground.phase }, { on := 5, ground := Go.Ground.phase }, { on := 6, ground := Go.Ground.phase }, { on := 7, ground := Go.Ground.phase }, { on := 8, ground := Go.Ground.phase }, { on := 9, ground := Go.Ground.phase }, { on := 10, ground := Go.Ground.phase }], guard := none }) (v := ?vac11) rfl (by kernel_rfl) (by kernel_rfl) (by kernel_rfl) (fun _ _ _ h => h) (Or.inl ⟨by rfl, ?hac11⟩) hHeld ?rac11
                  case hac11 => (intro w hSw; (try dsimp only at hSw); go_simp; try with_reducible rfl)
                  try simp only [Act.put, List.setIfInBounds_toArray, List.set_cons_zero, List.set_cons_succ]
                  refine wpAnyH_done (by kernel_rfl) ?_ _
                  refine NoPanic.normal ?_
                  have hB2 := bel_step hbel (Bel.drew g0)
                  go_wp2
                  go_roundw
                  case rel => exact ⟨k2 + 1, by omega, by go_num, by rw [HST.out]; rfl, hB2⟩
                  case measure => simp [intOf]; omega
                · rw [he] at HST
                  go_wp2
                  refine wp_region_noPanic ?_
                  refine wp_region_held_drew (S := fun w' => Bel wr w') (by kernel_rfl) (Bel.drew g0) (fun hHeld => ?_)
                  refine wpAnyH_take (i := 0) (oi := { dst := some 44, op := Go.Op.move (Go.Operand.tmp 10), type := 4, pos := "l07_style.go:221", after := #[], guard := none }) (v := ?vad0) rfl (by kernel_rfl) (by kernel_rfl) (by kernel_rfl) (fun _ _ _ h => h) (Or.inl ⟨by rfl, ?had0⟩) hHeld ?rad0
                  case had0 => (intro w hSw; (try dsimp only at hSw); go_simp; try with_reducible rfl)
                  try simp only [Act.put, List.setIfInBounds_toArray, List.set_cons_zero, List.set_cons_succ]
                  refine wpAnyH_take (i := 1) (oi := { dst := some 45, op := Go.Op.move (Go.Operand.tmp 44), type := 4, pos := "l07_style.go:221", after := #[{ on := 0, ground := Go.Ground.data }], guard := none }) (v := ?vad1) rfl (by kernel_rfl) (by kernel_rfl) (by kernel_rfl) (fun _ _ _ h => h) (Or.inl ⟨by rfl, ?had1⟩) hHeld ?rad1
                  case had1 => (intro w hSw; (try dsimp only at hSw); go_simp; try with_reducible rfl)
                  try simp only [Act.put, List.setIfInBounds_toArray, List.set_cons_zero, List.set_cons_succ]
                  refine wpAnyH_take (i := 2) (oi := { dst := some 46, op := Go.Op.move (Go.Operand.tmp 1), type := 70, pos := "l07_style.go:221", after := #[{ on := 1, ground := Go.Ground.guard }], guard := some (1, false) }) (v := ?vad2) rfl (by kernel_rfl) (by kernel_rfl) (by kernel_rfl) (fun _ _ _ h => h) (Or.inl ⟨by rfl, ?had2⟩) hHeld ?rad2
                  case had2 => (intro w hSw; (try dsimp only at hSw); go_simp; try with_reducible rfl)
                  try simp only [Act.put, List.setIfInBounds_toArray, List.set_cons_zero, List.set_cons_succ]
                  refine wpAnyH_take (i := 3) (oi := { dst := some 47, op := Go.Op.move (Go.Operand.tmp 11), type := 3, pos := "l07_style.go:221", after := #[{ on := 1, ground := Go.Ground.guard }], guard := some (1, false) }) (v := ?vad3) rfl (by kernel_rfl) (by kernel_rfl) (by kernel_rfl) (fun _ _ _ h => h) (Or.inl ⟨by rfl, ?had3⟩) hHeld ?rad3
                  case had3 => (intro w hSw; (try dsimp only at hSw); go_simp; try with_reducible rfl)
                  try simp only [Act.put, List.setIfInBounds_toArray, List.set_cons_zero, List.set_cons_succ]
                  refine wpAnyH_take (i := 4) (oi := { dst := some 48, op := Go.Op.indexAddr 70 (Go.Operand.tmp 46) (Go.Operand.tmp 47), type := 0, pos := "l07_style.go:221", after := #[{ on := 2, ground := Go.Ground.data }, { on := 3, ground := Go.Ground.data }, { on := 1, ground := Go.Ground.guard }], guard := some (1, false) }) (v := ?vad4) rfl (by kernel_rfl) (by kernel_rfl) (by kernel_rfl) (fun _ _ _ h => h) (Or.inl ⟨by rfl, ?had4⟩) hHeld ?rad4
                  case had4 => (intro w hSw; (try dsimp only at hSw); go_simp; try with_reducible rfl)
                  try simp only [Act.put, List.setIfInBounds_toArray, List.set_cons_zero, List.set_cons_succ]
                  refine wpAnyH_take (i := 5) (oi := { dst := some 49, op := Go.Op.fieldAddr 157 (Go.Operand.tmp 48) 0, type := 0, pos := "l07_style.go:221", after := #[{ on := 4, ground := Go.Ground.data }, { on := 1, ground := Go.Ground.guard }], guard := some (1, false) }) (v := ?vad5) rfl (by kernel_rfl) (by kernel_rfl) (by kernel_rfl) (fun _ _ _ h => h) (Or.inl ⟨by rfl, ?had5⟩) hHeld ?rad5
                  case had5 => (intro w hSw; (try dsimp only at hSw); go_simp; try with_reducible rfl)
                  try simp only [Act.put, List.setIfInBounds_toArray, List.set_cons_zero, List.set_cons_succ]
                  refine wpAnyH_take (i := 6) (oi := { dst := some 50, op := Go.Op.load 9 (Go.Operand.tmp 49), type := 9, pos := "l07_style.go:221", after := #[{ on := 5, ground := Go.Ground.data }, { on := 1, ground := Go.Ground.guard }], guard := some (1, false) }) (v := ?vad6) rfl (by kernel_rfl) (by kernel_rfl) (by kernel_rfl) (fun _ _ _ h => h) (Or.inl ⟨by rfl, ?had6⟩) hHeld ?rad6
                  case had6 => (intro w hSw; (try dsimp only at hSw); go_simp; try with_reducible rfl)
                  try simp only [Act.put, List.setIfInBounds_toArray, List.set_cons_zero, List.set_cons_succ]
                  refine wpAnyH_take (i := 7) (oi := { dst := some 51, op := Go.Op.fieldAddr 155 (Go.Operand.tmp 8) 0, type := 0, pos := "l07_style.go:221", after := #[{ on := 1, ground := Go.Ground.guard }], guard := some (1, false) }) (v := ?vad7) rfl (by kernel_rfl) (by kernel_rfl) (by kernel_rfl) (fun _ _ _ h => h) (Or.inl ⟨by rfl, ?had7⟩) hHeld ?rad7
                  case had7 => (intro w hSw; (try dsimp only at hSw); go_simp; try with_reducible rfl)
                  try simp only [Act.put, List.setIfInBounds_toArray, List.set_cons_zero, List.set_cons_succ]
                  refine wpAnyH_take (i := 8) (oi := { dst := some 52, op := Go.Op.load 9 (Go.Operand.tmp 51), type := 9, pos := "l07_style.go:221", after := #[{ on := 7, ground := Go.Ground.data }, { on := 1, ground := Go.Ground.guard }], guard := some (1, false) }) (v := ?vad8) rfl (by kernel_rfl) (by kernel_rfl) (by kernel_rfl) (fun _ _ _ h => h) (Or.inl ⟨by rfl, ?had8⟩) hHeld ?rad8
                  case had8 => (intro w hSw; (try dsimp only at hSw); go_simp; try with_reducible rfl)
                  try simp only [Act.put, List.setIfInBounds_toArray, List.set_cons_zero, List.set_cons_succ]
                  refine wpAnyH_take (i := 9) (oi := { dst := some 53, op := Go.Op.binOp Go.BinOp.eql 9 (Go.Operand.tmp 50) (Go.Operand.tmp 52) 9, type := 4, pos := "l07_style.go:221", after := #[{ on := 6, ground := Go.Ground.data }, { on := 8, ground := Go.Ground.data }, { on := 1, ground := Go.Ground.guard }], guard := some (1, false) }) (v := ?vad9) rfl (by kernel_rfl) (by kernel_rfl) (by kernel_rfl) (fun _ _ _ h => h) (Or.inl ⟨by rfl, ?had9⟩) hHeld ?rad9
                  case had9 => (intro w hSw; (try dsimp only at hSw); go_simp; try with_reducible rfl)
                  try simp only [Act.put, List.setIfInBounds_toArray, List.set_cons_zero, List.set_cons_succ]
                  refine wpAnyH_take (i := 10) (oi := { dst := some 54, op := Go.Op.pick (Go.Operand.tmp 45) (Go.Operand.const (Go.Value.bool true)) (Go.Operand.tmp 53), type := 4, pos := "l07_style.go:221", after := #[{ on := 1, ground := Go.Ground.data }, { on := 9, ground := Go.Ground.data }], guard := none }) (v := ?vad10) rfl (by kernel_rfl) (by kernel_rfl) (by kernel_rfl) (fun _ _ _ h => h) (Or.inl ⟨by rfl, ?had10⟩) hHeld ?rad10
                  case had10 => (intro w hSw; (try dsimp only at hSw); go_simp; try with_reducible rfl)
                  try simp only [Act.put, List.setIfInBounds_toArray, List.set_cons_zero, List.set_cons_succ]
                  refine wpAnyH_take (i := 11) (oi := { dst := some 10, op := Go.Op.assign (Go.Operand.tmp 54), type := 4, pos := "l07_style.go:221", after := #[{ on := 10, ground := Go.Ground.data }, { on := 1, ground := Go.Ground.chain }, { on := 0, ground := Go.Ground.phase }, { on := 1, ground := Go.Ground.phase }, { on := 2, ground := Go.Ground.phase }, { on := 3, ground := Go.Ground.phase }, { on := 4, ground := Go.Ground.phase }, { on := 5, ground := Go.Ground.phase }, { on := 6, ground := Go.Ground.phase }, { on := 7, ground := Go.Ground.phase }, { on := 8, ground := Go.Ground.phase }, { on := 9, ground := Go.Ground.phase }, { on := 10, ground := Go.Ground.phase }], guard := none }) (v := ?vad11) rfl (by kernel_rfl) (by kernel_rfl) (by kernel_rfl) (fun _ _ _ h => h) (Or.inl ⟨by rfl, ?had11⟩) hHeld ?rad11
                  case had11 => (intro w hSw; (try dsimp only at hSw); go_simp; try with_reducible rfl)
                  try simp only [Act.put, List.setIfInBounds_toArray, List.set_cons_zero, List.set_cons_succ]
                  refine wpAnyH_done (by kernel_rfl) ?_ _
                  refine NoPanic.normal ?_
                  have hB2 := bel_step hbel (Bel.drew g0)
                  go_wp2
                  go_roundw
                  case rel => exact ⟨k2 + 1, by omega, by go_num, by rw [HST.out]; rfl, hB2⟩
                  case measure => simp [intOf]; omega
            · have e : k2 = nt := by omega
              subst e
              have hL : l.take k2 = l := List.take_of_length_le (by rw [Hnt.out]; exact Nat.le_refl _)
              rw [hL]
              obtain ⟨P, HP⟩ : ∃ P, Hid (thrB l d.k = P) := ⟨_, (rfl : thrB l d.k = _)⟩
              obtain ⟨O, HO⟩ : ∃ O, Hid (d.op = O) := ⟨_, (rfl : d.op = _)⟩
              obtain ⟨Y, HY⟩ : ∃ Y, Hid (d.v = Y) := ⟨_, (rfl : d.v = _)⟩
              rw [HP.out]
              rw [HO.out] at q1
              rw [HY.out] at q2
              clear X2 q0 hL
              by_cases h1 : O = 1
              · subst h1
                cases he : (T.toList == Y.toList)
                · skip
                  have HZ : Hid (false = appB r l z) := HF.out (by unfold tstB; rw [HO.out, HT.out, HY.out]; simp [he])
                  go_wp2
                  go_ret
                  exact ⟨ret_bl HZ.out, bel_step hBW hBB⟩
                · skip
                  have HZ := HS.out (by unfold tstB; rw [HO.out, HT.out, HY.out]; simp [he])
                  have HZ : Hid (∀ j (h : j < r.tests.length), j < k + 1 → tstB l r.tests[j] = true) := HZ
                  go_wp2
                  go_roundw
                  case rel => exact ⟨k + 1, by omega, by go_num, HZ.out, hBB⟩
                  case measure => simp [intOf]; omega
              · skip
                by_cases h2 : O = 2
                · subst h2
                  cases he : (T.toList == Y.toList)
                  · skip
                    have HZ := HS.out (by unfold tstB; rw [HO.out, HT.out, HY.out]; simp [he])
                    have HZ : Hid (∀ j (h : j < r.tests.length), j < k + 1 → tstB l r.tests[j] = true) := HZ
                    go_wp2
                    go_roundw
                    case rel => exact ⟨k + 1, by omega, by go_num, HZ.out, hBB⟩
                    case measure => simp [intOf]; omega
                  · skip
                    have HZ : Hid (false = appB r l z) := HF.out (by unfold tstB; rw [HO.out, HT.out, HY.out]; simp [he])
                    go_wp2
                    go_ret
                    exact ⟨ret_bl HZ.out, bel_step hBW hBB⟩
                · skip
                  by_cases h3 : O = 3
                  · subst h3
                    cases P
                    · skip
                      have HZ : Hid (false = appB r l z) := HF.out (by unfold tstB; rw [HO.out, HP.out]; simp)
                      go_wp2
                      go_ret
                      exact ⟨ret_bl HZ.out, bel_step hBW hBB⟩
                    · skip
                      have HZ := HS.out (by unfold tstB; rw [HO.out, HP.out]; simp)
                      have HZ : Hid (∀ j (h : j < r.tests.length), j < k + 1 → tstB l r.tests[j] = true) := HZ
                      go_wp2
                      go_roundw
                      case rel => exact ⟨k + 1, by omega, by go_num, HZ.out, hBB⟩
                      case measure => simp [intOf]; omega
                  · skip
                    by_cases h4 : O = 4
                    · subst h4
                      cases P
                      · skip
                        have HZ := HS.out (by unfold tstB; rw [HO.out, HP.out]; simp)
                        have HZ : Hid (∀ j (h : j < r.tests.length), j < k + 1 → tstB l r.tests[j] = true) := HZ
                        go_wp2
                        go_roundw
                        case rel => exact ⟨k + 1, by omega, by go_num, HZ.out, hBB⟩
                        case measure => simp [intOf]; omega
                      · skip
                        have HZ : Hid (false = appB r l z) := HF.out (by unfold tstB; rw [HO.out, HP.out]; simp)
                        go_wp2
                        go_ret
                        exact ⟨ret_bl HZ.out, bel_step hBW hBB⟩
                    · skip
                      have HZ : Hid (false = appB r l z) := HF.out (by unfold tstB; rw [HO.out]; simp [h1, h2, h3, h4])
                      go_wp2
                      go_ret
                      exact ⟨ret_bl HZ.out, bel_step hBW hBB⟩
        · have HT : Hid (true = appB r l z) := by
            rw [HQ.out]
            exact (List.all_eq_true.2 fun d hd => by
              obtain ⟨i, hi, rfl⟩ := List.mem_iff_getElem.1 hd
              exact H.out i hi (by rw [Hn.out] at hi; omega)).symm
          go_wp2
          go_ret
          exact ⟨ret_bl HT.out, bel_step hBW hbel⟩
    · have k2' : r.high < z := by omega
      have HF : Hid (false = appB r l z) := (by simp [appB, k2] : false = appB r l z)
      clear hR hT
      go_enter Try.func44, Try.ntmps44
      go_wp2
      rw [← HW.out]
      go_ret
      exact ⟨ret_bl HF.out, hBW⟩
  · have k1' : z < r.low := by omega
    have HF : Hid (false = appB r l z) := (by simp [appB, k1] : false = appB r l z)
    clear hR hT
    go_enter Try.func44, Try.ntmps44
    go_wp2
    rw [← HW.out]
    go_ret
    exact ⟨ret_bl HF.out, hBW⟩
end Go.Proofs.Ytbebgfhblalghaa

