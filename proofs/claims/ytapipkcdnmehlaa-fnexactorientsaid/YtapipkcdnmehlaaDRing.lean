/-
  Contracts of the laws' own functions on Ring data: counted, copied, held against each other.
-/
import Derived.Test.YtapipkcdnmehlaaMem
import Derived.Test.YtapipkcdnmehlaaRngD
import Derived.Test.YtapipkcdnmehlaaDPoint
import Derived.Test.YtapipkcdnmehlaaPtsD
import Derived.Deep.LoopGhost
import Derived.OwnWalk
import Derived.Deep.RegionHeld3
namespace Go.Proofs.Ytapipkcdnmehlaa
open Go.RowKit

set_option maxHeartbeats 1000000 in
theorem szRing_any (a0 : Option Addr) (n0 c0 : Nat) (l0 : List PtD) (bs0 : List Nat) (x1 : Bool) (left : Int) (w : World) (t0 : PtL w a0 l0 bs0) (e0 : l0.length = n0) (m0 : n0 ≤ 9223372036854775807) (h0 : 0 ≤ left) (h1 : left ≤ 1048576) :
    Calls Try.prog 31 #[.agg #[.slice a0 n0 c0, .bool x1], .int .i64 left] w fun e w' => e = .returned (.int .i64 (szR left (l0.length))) ∧ Bel w w' := by
  obtain ⟨r0, H0⟩ : ∃ r, Hid (szR left (l0.length) = r) := ⟨_, (rfl : szR left (l0.length) = _)⟩
  have b0 : r0 ≤ 1048576 := by rw [← H0.out]; exact (szR_bd h1).1
  by_cases p0 : 0 ≤ r0
  · have q0 : szR left (l0.length) = r0 := H0.out
    have Q0 : Hid (szR left (l0.length) = r0) := q0
    clear q0
    go_enter Try.func31, Try.ntmps31
    go_wp2_with (first | (go_at_call 7; refine (szPtS_any _ _ _ l0 bs0 _ _ (t0.bel ptE (bel_alloc (Bel.refl _) _)) e0 m0 h0 h1).mono ?_; rintro e w0 ⟨rfl, hb0⟩; have B0 := bel_step (bel_alloc (Bel.refl w) _) hb0; obtain ⟨hc0, _, hz0⟩ := bcell hb0; rw [H0.out]))
    go_ret
    exact ⟨ret_num Q0.out.symm, by assumption⟩
  · have q0 : szR left (l0.length) = r0 := H0.out
    have Q : Hid (szR left (l0.length) = -1) := (by have := szR_bd (s := l0.length) h1; rw [q0] at this ⊢; omega : szR left (l0.length) = -1)
    clear q0
    go_enter Try.func31, Try.ntmps31
    go_wp2_with (first | (go_at_call 7; refine (szPtS_any _ _ _ l0 bs0 _ _ (t0.bel ptE (bel_alloc (Bel.refl _) _)) e0 m0 h0 h1).mono ?_; rintro e w0 ⟨rfl, hb0⟩; have B0 := bel_step (bel_alloc (Bel.refl w) _) hb0; obtain ⟨hc0, _, hz0⟩ := bcell hb0; rw [H0.out]))
    go_ret
    exact ⟨ret_num Q.out.symm, by assumption⟩

set_option maxHeartbeats 1000000 in
theorem toRing_any (a0 : Option Addr) (n0 c0 : Nat) (l0 : List PtD) (bs0 : List Nat) (x1 : Bool) (w : World) (t0 : PtL w a0 l0 bs0) (e0 : l0.length = n0) (m0 : n0 ≤ 1048576) :
    Calls Try.prog 35 #[.agg #[.slice a0 n0 c0, .bool x1]] w fun e w' => ∃ B0 d0, e = .returned (.agg #[.slice (some ⟨B0, 0, none⟩) n0 n0, .bool x1]) ∧ PtL w' (some ⟨B0, 0, none⟩) l0 d0 ∧ Fresh w w' (d0) ∧ Bel w w' := by
  have E0 : Hid (l0.length = n0) := e0
  clear e0
  go_enter Try.func35, Try.ntmps35
  have S0 : Bel w (((w.alloc (.cells #[.slice a0 n0 c0, .bool x1] 51)).alloc (.cells #[.slice none 0 0, .bool false] 55)).alloc (.cells #[.slice none 0 0, .bool false] 55)) := bel_alloc (bel_alloc (bel_alloc (Bel.refl _) _) _) _
  have X0 : Blk (((w.alloc (.cells #[.slice a0 n0 c0, .bool x1] 51)).alloc (.cells #[.slice none 0 0, .bool false] 55)).alloc (.cells #[.slice none 0 0, .bool false] 55)) (w.heap.size) [.slice a0 n0 c0, .bool x1] := (Blk.new w [.slice a0 n0 c0, .bool x1] 51).bel (bel_alloc (bel_alloc (Bel.refl _) _) _)
  have R0 : Blk (((w.alloc (.cells #[.slice a0 n0 c0, .bool x1] 51)).alloc (.cells #[.slice none 0 0, .bool false] 55)).alloc (.cells #[.slice none 0 0, .bool false] 55)) (w.heap.size + 1) [.slice none 0 0, .bool false] := (Blk.new1 w _ [.slice none 0 0, .bool false] 55).bel (bel_alloc (Bel.refl _) _)
  have O0 : Blk (((w.alloc (.cells #[.slice a0 n0 c0, .bool x1] 51)).alloc (.cells #[.slice none 0 0, .bool false] 55)).alloc (.cells #[.slice none 0 0, .bool false] 55)) (w.heap.size + 1 + 1) [.slice none 0 0, .bool false] := Blk.new2 w _ _ [.slice none 0 0, .bool false] 55
  have y0 : w.heap.size + 3 ≤ (((w.alloc (.cells #[.slice a0 n0 c0, .bool x1] 51)).alloc (.cells #[.slice none 0 0, .bool false] 55)).alloc (.cells #[.slice none 0 0, .bool false] 55)).heap.size := by simp
  go_wp2_with fail
  refine (toPtS_any _ _ _ l0 bs0 _ (t0.bel ptE S0) E0.out m0).mono ?_
  rintro e w1 ⟨B0, d0, rfl, u0, f0, hb1⟩
  have V1 := bel_step S0 hb1
  have X1 := X0.bel hb1
  have R1 := R0.bel hb1
  have O1 := O0.bel hb1
  have z1 : w.heap.size + 3 ≤ w1.heap.size := Nat.le_trans y0 hb1.out.size
  have x10 : w1.cell? ⟨w.heap.size, 0, none⟩ = some (.slice a0 n0 c0) := X1.cell 0 (by simp)
  have r10 : w1.cell? ⟨w.heap.size + 1, 0, none⟩ = some (.slice none 0 0) := R1.cell 0 (by simp)
  have o10 : w1.cell? ⟨w.heap.size + 1 + 1, 0, none⟩ = some (.slice none 0 0) := O1.cell 0 (by simp)
  have x11 : w1.cell? ⟨w.heap.size, 1, none⟩ = some (.bool x1) := X1.cell 1 (by simp)
  have r11 : w1.cell? ⟨w.heap.size + 1, 1, none⟩ = some (.bool false) := R1.cell 1 (by simp)
  have o11 : w1.cell? ⟨w.heap.size + 1 + 1, 1, none⟩ = some (.bool false) := O1.cell 1 (by simp)
  have g1 := X1.free
  have gr1 := R1.free
  have go1 := O1.free
  have c0 : Abv (w.heap.size + 3) w1 w1 := Abv.refl _ _
  have q0 := f0.abv y0 c0
  have F0 : Fresh w w1 d0 := q0.old (Nat.le_trans (Nat.le_add_right _ 3) y0)
  have FF := F0
  have HN : ∀ x ∈ d0, w.heap.size + 3 ≤ x := fun x hx => Nat.le_trans y0 (f0.new x hx).1
  have hA : ∀ W, Abv (w.heap.size + 3) w1 W → Bel w W → PtL W (some ⟨B0, 0, none⟩) l0 d0 ∧ Fresh w W (d0) ∧ Bel w W := fun W h hb => ⟨u0.abv ptE f0 y0 (c0.trans h), FF.abv0 (fun x hx => HN x hx) h, hb⟩
  go_wp2
  refine bodyPost_ret (v := .agg #[.slice (some ⟨B0, 0, none⟩) n0 n0, .bool x1]) (by simp [results, Try.results35, go_sem, r10, r11]) rfl ?_
  clear x10 r10 o10 x11 r11 o11
  refine ⟨B0, d0, rfl, hA _ ?_ ?_⟩
  · with_reducible repeat (first | exact Abv.refl _ _ | refine Abv.set ?_ (by omega) _)
  · (with_reducible repeat (first | exact V1 | refine bel_set ?_ ?_ _)) <;> simp <;> omega

set_option maxHeartbeats 1000000 in
theorem eqRing_same (a0 : Option Addr) (n0 c0 : Nat) (l0 : List PtD) (bs0 : List Nat) (x1 : Bool) (a0' : Option Addr) (c0' : Nat) (bs0' : List Nat) (w : World) (t0 : PtL w a0 l0 bs0) (e0 : l0.length = n0) (t0' : PtL w a0' l0 bs0') (m0 : n0 ≤ 1048576) :
    Calls Try.prog 40 #[.agg #[.slice a0 n0 c0, .bool x1], .agg #[.slice a0' n0 c0', .bool x1]] w fun e w' => e = .returned (.bool true) ∧ Bel w w' := by
  have S0 : Bel w ((w.alloc (.cells #[.slice a0 n0 c0, .bool x1] 55)).alloc (.cells #[.slice a0' n0 c0', .bool x1] 55)) := bel_alloc (bel_alloc (Bel.refl _) _) _
  have X0 : Blk ((w.alloc (.cells #[.slice a0 n0 c0, .bool x1] 55)).alloc (.cells #[.slice a0' n0 c0', .bool x1] 55)) w.heap.size [.slice a0 n0 c0, .bool x1] := (Blk.new w [.slice a0 n0 c0, .bool x1] 55).bel (bel_alloc (Bel.refl _) _)
  have Y0 : Blk ((w.alloc (.cells #[.slice a0 n0 c0, .bool x1] 55)).alloc (.cells #[.slice a0' n0 c0', .bool x1] 55)) (w.heap.size + 1) [.slice a0' n0 c0', .bool x1] := Blk.new1 w _ [.slice a0' n0 c0', .bool x1] 55
  go_enter Try.func40, Try.ntmps40
  go_wp2_with fail
  refine (eqPtS_same _ _ _ _ _ l0 bs0 bs0' _ (t0.bel ptE S0) (t0'.bel ptE S0) e0 m0).mono ?_
  rintro e w1 ⟨rfl, hb1⟩
  have S1 := bel_step S0 hb1
  have X1 := X0.bel hb1
  have Y1 := Y0.bel hb1
  have x10 : w1.cell? ⟨w.heap.size, 0, none⟩ = some (.slice a0 n0 c0) := X1.cell 0 (by simp)
  have y10 : w1.cell? ⟨w.heap.size + 1, 0, none⟩ = some (.slice a0' n0 c0') := Y1.cell 0 (by simp)
  have x11 : w1.cell? ⟨w.heap.size, 1, none⟩ = some (.bool x1) := X1.cell 1 (by simp)
  have y11 : w1.cell? ⟨w.heap.size + 1, 1, none⟩ = some (.bool x1) := Y1.cell 1 (by simp)
  go_wp2
  go_ret
  exact ⟨rfl, S1⟩

set_option maxHeartbeats 1000000 in
theorem szRingS_any (a : Option Addr) (n c : Nat) (l : List RingD) (bs : List Nat) (left : Int) (w : World) (hT : RingL w a l bs) (hn : l.length = n) (hm : n ≤ 9223372036854775807) (h0 : 0 ≤ left) (h1 : left ≤ 1048576) :
    Calls Try.prog 12 #[.slice a n c, .int .i64 left] w fun e w' => e = .returned (.int .i64 (szR left (ringsSz l))) ∧ Bel w w' := by
  have Hn : Hid (l.length = n) := hn
  have HS : Hid (ringsSz l = n + sumTo ringSz l n) := (by unfold ringsSz; rw [hn] : ringsSz l = n + sumTo ringSz l n)
  clear hn
  by_cases hf : (n : Int) ≤ left
  · go_enter Try.func12, Try.ntmps12
    go_wp2
    go_loopw [1, 5] (fun t i wr => ∃ (k : Nat) (cur : Int), k ≤ n ∧ i = .int .i64 k ∧ t = .int .i64 cur ∧ 0 ≤ cur ∧ cur ≤ 1048576 ∧ Hid (cur = left - n - sumTo ringSz l k) ∧ Bel w wr) (fun _ i _ => n - (intOf i).toNat)
    case atStart => exact ⟨0, left - n, Nat.zero_le _, rfl, rfl, by omega, by omega, (by rw [sumTo_zero]; omega : left - (n : Int) = left - n - ((sumTo ringSz l 0 : Nat) : Int)), Bel.refl _⟩
    case round =>
      obtain ⟨k, cur, hk, rfl, rfl, p0, p1, HC, hbel⟩ := hrel
      by_cases hlt : k < n
      · have hkl : k < l.length := by rw [Hn.out]; exact hlt
        obtain ⟨b, off, f, rfl, hb, hx⟩ := (hT.bel ringE hbel).out hkl
        obtain ⟨a0, k0, m0, c0, c1, t0⟩ := hx k hkl
        have HU : Hid (sumTo ringSz l (k + 1) = sumTo ringSz l k + ringSz l[k]) := sumTo_succ _ hkl
        have HL : Hid (sumTo ringSz l (k + 1) ≤ sumTo ringSz l n) := sumTo_le _ (by omega) Hn.out.symm
        obtain ⟨r, HR⟩ : ∃ r, Hid (szR cur (ringSz l[k]) = r) := ⟨_, (rfl : szR cur (ringSz l[k]) = _)⟩
        have hr1 : r ≤ 1048576 := by rw [← HR.out]; exact (szR_bd p1).1
        clear hx hT
        by_cases p : 0 ≤ r
        · have HN : Hid (r = left - n - sumTo ringSz l (k + 1)) := by
            have h2 := HR.out; have h3 := HC.out; have h4 := HU.out
            have h5 : ((ringSz l[k] : Nat) : Int) ≤ cur := by
              by_cases h6 : ((ringSz l[k] : Nat) : Int) ≤ cur
              · exact h6
              · rw [szR_neg h6] at h2; omega
            rw [szR_pos h5] at h2
            show r = _
            omega
          go_wp2_with fail
          refine (szRing_any a0 _ k0 l[k].row _ _ cur _ t0 rfl m0 p0 p1).mono ?_
          rintro e w1 ⟨rfl, hb1⟩
          rw [show szR cur l[k].row.length = r from HR.out]
          have hB1 := bel_step hbel hb1
          clear hb1 hbel
          go_wp2
          go_roundw
          case rel => exact ⟨k + 1, r, by omega, by go_num, rfl, p, hr1, HN, hB1⟩
          case measure => simp [intOf]; omega
        · have HN : Hid (szR left (ringsSz l) = -1) := by
            have h2 := HR.out; have h3 := HC.out; have h4 := HU.out; have h6 := HL.out
            rw [HS.out]
            refine szR_neg fun h7 => p ?_
            have h8 : ((ringSz l[k] : Nat) : Int) ≤ cur := by omega
            rw [← h2, szR_pos h8]
            omega
          go_wp2_with fail
          refine (szRing_any a0 _ k0 l[k].row _ _ cur _ t0 rfl m0 p0 p1).mono ?_
          rintro e w1 ⟨rfl, hb1⟩
          rw [show szR cur l[k].row.length = r from HR.out]
          have hB1 := bel_step hbel hb1
          clear hb1 hbel
          go_wp2
          go_ret
          exact ⟨ret_num HN.out.symm, hB1⟩
      · have e : k = n := by omega
        subst e
        have HN : Hid (szR left (ringsSz l) = cur) := by
          have h3 := HC.out
          have h5 : ((k + sumTo ringSz l k : Nat) : Int) ≤ left := by omega
          rw [HS.out, szR_pos h5]
          show _ = _
          omega
        go_wp2
        go_ret
        exact ⟨ret_num HN.out.symm, hbel⟩
  · have HN : Hid (szR left (ringsSz l) = -1) := by rw [HS.out]; exact szR_neg (by omega)
    go_enter Try.func12, Try.ntmps12
    go_wp2
    go_ret
    exact ⟨ret_num HN.out.symm, Bel.refl _⟩

theorem infoRing : (Try.prog.info? 55).map (fun i => (i.zero, i.size, i.bytes)) = some (some (.agg #[.slice none 0 0, .bool false]), 2, 32) := by kernel_rfl
set_option maxHeartbeats 1000000 in
theorem toRingS_any (a : Option Addr) (n c : Nat) (l : List RingD) (bs : List Nat) (w : World) (hT : RingL w a l bs) (hn : l.length = n) (hm : n ≤ 1048576) (hs : ∀ i (h : i < l.length), l[i].row.length ≤ 1048576) :
    Calls Try.prog 14 #[.slice a n c] w fun e w' => ∃ B cs, e = .returned (.slice (some ⟨B, 0, none⟩) n n) ∧ RingL w' (some ⟨B, 0, none⟩) l cs ∧ Fresh w w' cs ∧ Bel w w' := by
  have Hn : Hid (l.length = n) := hn
  clear hn
  have hmk : ∀ w : World, (Instr.makeSlice 34 (.int .i64 n) (.int .i64 n)).run Try.prog w = .ok (.slice (some ⟨w.heap.size, 0, none⟩) n n) (w.alloc (.cells (madeCells #[.slice none 0 0, .bool false] (n * 2)) 55)) := fun w => by
    obtain ⟨i0, hi, hz0, hz1, hz2⟩ := info_parts infoRing
    have := run_make (P := Try.prog) w 34 55 i0 (.agg #[.slice none 0 0, .bool false]) Try.underlying34 hi hz0 .i64 .i64 n n (by omega) (by omega) (by rw [hz2]; omega) (by omega)
    rw [hz1] at this
    exact this
  go_enter Try.func14, Try.ntmps14
  go_wp2
  go_loopw [4] (fun i wr => ∃ k : Nat, k ≤ n ∧ i = .int .i64 k ∧ (∃ f, Fill 2 RingE wr w.heap.size n k l f) ∧ Bel w wr) (fun i _ => n - (intOf i).toNat)
  case atStart => exact ⟨0, Nat.zero_le _, rfl, ⟨_, Fill.start _ _ _ _ _ _⟩, bel_alloc (Bel.refl _) _⟩
  case round =>
    obtain ⟨k, hk, rfl, ⟨g, hrow⟩, hbel⟩ := hrel
    by_cases hlt : k < n
    · have hkl : k < l.length := by rw [Hn.out]; exact hlt
      obtain ⟨b, off, f, rfl, hb, hx⟩ := (hT.bel ringE hbel).out hkl
      obtain ⟨a0, k0, m0, c0, c1, t0⟩ := hx k hkl
      clear hx hT
      go_wp2_with fail
      refine (toRing_any a0 _ k0 l[k].row _ l[k].inner _ t0 rfl (hs k hkl)).mono ?_
      rintro e w1 ⟨D0, d0, rfl, u0, fr, hb1⟩
      have hr1 := hrow.bel ringE hb1
      have hB1 : Bel w w1 := bel_step hbel hb1
      obtain ⟨v0, d50⟩ := hr1.there (k * 2) (by omega)
      have f0 := hr1.free (k * 2)
      obtain ⟨v1, d51⟩ := hr1.there (k * 2 + 1) (by omega)
      have f1 := hr1.free (k * 2 + 1)
      clear c0 c1 hb hbel
      go_wp2
      go_roundw
      case rel =>
        have S := setRow_in w.heap.size [.slice (some ⟨D0, 0, none⟩) l[k].row.length l[k].row.length, .bool l[k].inner] w1 (k * 2) (fun j hj => hr1.there _ (by simp at hj; omega))
        have HE : PtL (setRow w1 w.heap.size (k * 2) [.slice (some ⟨D0, 0, none⟩) l[k].row.length l[k].row.length, .bool l[k].inner]) (some ⟨D0, 0, none⟩) l[k].row d0 := u0.alike ptE (setRow_alike _ (fun x hx => (fr.new x hx).2) (fun hx => by have h1 := (fr.new _ hx).1; have h2 := hrow.lt; omega))
        exact ⟨k + 1, by omega, by go_num, ⟨_, hrow.put ringE hb1 hlt Hn.out (fr) [.slice (some ⟨D0, 0, none⟩) l[k].row.length l[k].row.length, .bool l[k].inner] rfl ⟨_, _, m0, S 0 (by simp), S 1 (by simp), HE⟩⟩, setRow_bel hB1 (Nat.le_refl _) [.slice (some ⟨D0, 0, none⟩) l[k].row.length l[k].row.length, .bool l[k].inner] (k * 2)⟩
      case measure => simp [intOf]; omega
    · have e : k = n := by omega
      subst e
      go_wp2
      go_ret
      exact ⟨_, _, rfl, hrow.sl Hn.out, hrow.fresh (Nat.le_refl _), hbel⟩

set_option maxHeartbeats 1000000 in
theorem eqRingS_same (a a' : Option Addr) (n c c' : Nat) (l : List RingD) (bs bs' : List Nat) (w : World) (hP : RingL w a l bs) (hP' : RingL w a' l bs') (hn : l.length = n) (hm : n ≤ 1048576) (hs : ∀ i (h : i < l.length), l[i].row.length ≤ 1048576) :
    Calls Try.prog 17 #[.slice a n c, .slice a' n c'] w fun e w' => e = .returned (.bool true) ∧ Bel w w' := by
  have Hn : Hid (l.length = n) := hn
  clear hn
  go_enter Try.func17, Try.ntmps17
  go_wp2
  go_loopw [5] (fun i wr => ∃ k : Nat, k ≤ n ∧ i = .int .i64 k ∧ Bel w wr) (fun i _ => n - (intOf i).toNat)
  case atStart => exact ⟨0, Nat.zero_le _, rfl, Bel.refl _⟩
  case round =>
    obtain ⟨k, hk, rfl, hbel⟩ := hrel
    by_cases hlt : k < n
    · have hkl : k < l.length := by rw [Hn.out]; exact hlt
      obtain ⟨b, off, f, rfl, h2, h3⟩ := (hP.bel ringE hbel).out hkl
      obtain ⟨b', off', f', rfl, h2', h3'⟩ := (hP'.bel ringE hbel).out hkl
      obtain ⟨a0, k0, m0, c0, c1, t0⟩ := h3 k hkl
      obtain ⟨a0', k0', m0', c0', c1', t0'⟩ := h3' k hkl
      have hR : ∀ w', Bel wr w' → w'.cell? ⟨b, off + k * 2, none⟩ = some (.slice a0 l[k].row.length k0) ∧ w'.cell? ⟨b, off + k * 2 + 1, none⟩ = some (.bool l[k].inner) ∧ w'.cell? ⟨b', off' + k * 2, none⟩ = some (.slice a0' l[k].row.length k0') ∧ w'.cell? ⟨b', off' + k * 2 + 1, none⟩ = some (.bool l[k].inner) :=
        fun w' h => ⟨bel_cellM h h2 c0, bel_cellM h h2 c1, bel_cellM h h2' c0', bel_cellM h h2' c1'⟩
      have hlt' : (k : Int) < (n : Int) := by omega
      have g0 : Bel wr wr := Bel.refl _
      have T0 : ∀ w', Bel wr w' → PtL w' a0 l[k].row (f k) := fun w' h => t0.bel ptE h
      have T0' : ∀ w', Bel wr w' → PtL w' a0' l[k].row (f' k) := fun w' h => t0'.bel ptE h
      clear h3 h3' c0 c0' c1 c1' h2 h2' hP hP'
      go_wp2
      go_region_held3 (fun w' => Bel wr w') (repeat (first | exact g0 | refine Bel.drew ?_ | assumption | refine bel_then (by assumption) ?_))
        (first
          | (go_at_call 40; refine (eqRing_same a0 _ k0 l[k].row (f k) l[k].inner a0' k0' (f' k) _ (T0 _ (by assumption)) rfl (T0' _ (by assumption)) (hs k hkl)).mono ?_; rintro e w' ⟨rfl, hbk⟩))
      have hH : Bel wr w' := by assumption
      go_wp2
      go_roundw
      case rel => exact ⟨k + 1, by omega, by go_num, bel_step hbel hH⟩
      case measure => simp [intOf]; omega
    · have e : k = n := by omega
      subst e
      go_wp2
      go_ret
      exact ⟨rfl, hbel⟩

end Go.Proofs.Ytapipkcdnmehlaa
