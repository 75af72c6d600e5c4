/-
  Contracts of the laws' own functions on Trip data: counted, copied, held against each other.
-/
import Derived.Test.YtkmccjjghpnejaaGB
import Derived.Test.YtkmccjjghpnejaaDCall
import Derived.Deep.LoopGhost
import Derived.OwnWalk
import Derived.Deep.RegionHeld3
namespace Go.Proofs.Ytkmccjjghpnejaa
open Go.RowKit

set_option maxHeartbeats 1000000 in
theorem szTrip_any (x0 : ByteArray) (x1 : Int) (a2 : Option Addr) (n2 c2 : Nat) (l2 : List CalD) (bs2 : List Nat) (left : Int) (w : World) (t2 : CalL w a2 l2 bs2) (e2 : l2.length = n2) (m2 : n2 ≤ 9223372036854775807) (m0 : x0.size ≤ maxLen) (h0 : 0 ≤ left) (h1 : left ≤ 1048576) :
  Calls Try.prog 91 #[.agg #[.string x0, .int .i64 x1, .slice a2 n2 c2], .int .i64 left] w fun e w' => e = .returned (.int .i64 (szR left (x0.size + l2.length))) ∧ Bel w w' := by
 unfold maxLen at m0
 obtain ⟨r0, H0⟩ : ∃ r, Hid (szR left x0.size = r) := ⟨_, (rfl : szR left x0.size = _)⟩
 have b0 : r0 ≤ 1048576 := by rw [← H0.out]; exact (szR_bd h1).1
 have X0 : Blk (w.alloc (.cells #[.string x0, .int .i64 x1, .slice a2 n2 c2] 132)) w.heap.size [.string x0, .int .i64 x1, .slice a2 n2 c2] := Blk.new w [.string x0, .int .i64 x1, .slice a2 n2 c2] 132
 by_cases p0 : (x0.size : Int) ≤ left
 ·obtain rfl : r0 = left - x0.size := by rw [← H0.out]; exact szR_pos p0
  obtain ⟨r1, H1⟩ : ∃ r, Hid (szR (left - x0.size) l2.length = r) := ⟨_, (rfl : szR (left - x0.size) l2.length = _)⟩
  have Q : Hid (szR left (x0.size + l2.length) = r1) := by
   rw [← szR_add (by rw [H0.out]; omega), H0.out]; exact H1.out
  by_cases p1 : 0 ≤ r1
  ·go_enter Try.func91, Try.ntmps91
   go_wp2_with fail
   refine (szCallS_any _ _ _ l2 bs2 _ _ (t2.bel calE (bel_alloc (Bel.refl _) _)) e2 m2 (by omega) b0).mono ?_
   rintro e w1 ⟨rfl, hb1⟩
   rw [H1.out]
   have B1 := bel_step (bel_alloc (Bel.refl w) _) hb1
   clear X0 hb1
   go_wp2
   go_ret
   exact ⟨ret_num Q.out.symm, B1⟩
  ·have Q1 : r1 = -1 := by
    have h3 := H1.out
    by_cases h4 : (l2.length : Int) ≤ left - x0.size
    ·rw [szR_pos h4] at h3; omega
    ·rw [szR_neg h4] at h3; omega
   go_enter Try.func91, Try.ntmps91
   go_wp2_with fail
   refine (szCallS_any _ _ _ l2 bs2 _ _ (t2.bel calE (bel_alloc (Bel.refl _) _)) e2 m2 (by omega) b0).mono ?_
   rintro e w1 ⟨rfl, hb1⟩
   rw [H1.out]
   have B1 := bel_step (bel_alloc (Bel.refl w) _) hb1
   clear X0 hb1
   go_wp2
   go_ret
   exact ⟨ret_num (Q1.symm.trans Q.out.symm), B1⟩
 ·have Q : Hid (szR left (x0.size + l2.length) = -1) := szR_neg (by omega)
  clear e2 t2
  go_enter Try.func91, Try.ntmps91
  go_wp2
  go_ret
  exact ⟨ret_num Q.out.symm, bel_alloc (Bel.refl _) _⟩

set_option maxHeartbeats 1000000 in
theorem toTrip_any (x0 : ByteArray) (x1 : Int) (a2 : Option Addr) (n2 c2 : Nat) (l2 : List CalD) (bs2 : List Nat) (w : World) (t2 : CalL w a2 l2 bs2) (e2 : l2.length = n2) (m2 : n2 ≤ 1048576) :
  Calls Try.prog 92 #[.agg #[.string x0, .int .i64 x1, .slice a2 n2 c2]] w fun e w' => ∃ B2 d2, e = .returned (.agg #[.string x0, .int .i64 x1, .slice (some ⟨B2, 0, none⟩) n2 n2]) ∧ CalL w' (some ⟨B2, 0, none⟩) l2 d2 ∧ Fresh w w' d2 ∧ Bel w w' := by
 have E2 : Hid (l2.length = n2) := e2
 clear e2
 go_enter Try.func92, Try.ntmps92
 have S0 : Bel w (((w.alloc (.cells #[.string x0, .int .i64 x1, .slice a2 n2 c2] 132)).alloc (.cells #[.string ⟨#[]⟩, .int .i64 0, .slice none 0 0] 92)).alloc (.cells #[.string x0, .int .i64 x1, .slice none 0 0] 92)) := bel_alloc (bel_alloc (bel_alloc (Bel.refl _) _) _) _
 have X0 : Blk (((w.alloc (.cells #[.string x0, .int .i64 x1, .slice a2 n2 c2] 132)).alloc (.cells #[.string ⟨#[]⟩, .int .i64 0, .slice none 0 0] 92)).alloc (.cells #[.string x0, .int .i64 x1, .slice none 0 0] 92)) (w.heap.size) [.string x0, .int .i64 x1, .slice a2 n2 c2] := (Blk.new w [.string x0, .int .i64 x1, .slice a2 n2 c2] 132).bel (bel_alloc (bel_alloc (Bel.refl _) _) _)
 have R0 : Blk (((w.alloc (.cells #[.string x0, .int .i64 x1, .slice a2 n2 c2] 132)).alloc (.cells #[.string ⟨#[]⟩, .int .i64 0, .slice none 0 0] 92)).alloc (.cells #[.string x0, .int .i64 x1, .slice none 0 0] 92)) (w.heap.size + 1) [.string ⟨#[]⟩, .int .i64 0, .slice none 0 0] := (Blk.new1 w _ [.string ⟨#[]⟩, .int .i64 0, .slice none 0 0] 92).bel (bel_alloc (Bel.refl _) _)
 have O0 : Blk (((w.alloc (.cells #[.string x0, .int .i64 x1, .slice a2 n2 c2] 132)).alloc (.cells #[.string ⟨#[]⟩, .int .i64 0, .slice none 0 0] 92)).alloc (.cells #[.string x0, .int .i64 x1, .slice none 0 0] 92)) (w.heap.size + 1 + 1) [.string x0, .int .i64 x1, .slice none 0 0] := Blk.new2 w _ _ [.string x0, .int .i64 x1, .slice none 0 0] 92
 have y0 : w.heap.size + 3 ≤ (((w.alloc (.cells #[.string x0, .int .i64 x1, .slice a2 n2 c2] 132)).alloc (.cells #[.string ⟨#[]⟩, .int .i64 0, .slice none 0 0] 92)).alloc (.cells #[.string x0, .int .i64 x1, .slice none 0 0] 92)).heap.size := by simp
 go_wp2_with fail
 refine (toCallS_any _ _ _ l2 bs2 _ (t2.bel calE S0) E2.out m2).mono ?_
 rintro e w1 ⟨B2, d2, rfl, u2, f2, hb1⟩
 have V1 := bel_step S0 hb1
 have X1 := X0.bel hb1
 have R1 := R0.bel hb1
 have O1 := O0.bel hb1
 have z1 : w.heap.size + 3 ≤ w1.heap.size := Nat.le_trans y0 hb1.out.size
 have x10 : w1.cell? ⟨w.heap.size, 0, none⟩ = some (.string x0) := X1.cell 0 (by simp)
 have r10 : w1.cell? ⟨w.heap.size + 1, 0, none⟩ = some (.string ⟨#[]⟩) := R1.cell 0 (by simp)
 have o10 : w1.cell? ⟨w.heap.size + 1 + 1, 0, none⟩ = some (.string x0) := O1.cell 0 (by simp)
 have x11 : w1.cell? ⟨w.heap.size, 1, none⟩ = some (.int .i64 x1) := X1.cell 1 (by simp)
 have r11 : w1.cell? ⟨w.heap.size + 1, 1, none⟩ = some (.int .i64 0) := R1.cell 1 (by simp)
 have o11 : w1.cell? ⟨w.heap.size + 1 + 1, 1, none⟩ = some (.int .i64 x1) := O1.cell 1 (by simp)
 have x12 : w1.cell? ⟨w.heap.size, 2, none⟩ = some (.slice a2 n2 c2) := X1.cell 2 (by simp)
 have r12 : w1.cell? ⟨w.heap.size + 1, 2, none⟩ = some (.slice none 0 0) := R1.cell 2 (by simp)
 have o12 : w1.cell? ⟨w.heap.size + 1 + 1, 2, none⟩ = some (.slice none 0 0) := O1.cell 2 (by simp)
 have g1 := X1.free
 have gr1 := R1.free
 have go1 := O1.free
 have q2 := f2.abv y0 (Abv.refl (w.heap.size + 3) w1)
 have FF : Fresh w w1 d2 := q2.old (Nat.le_trans (Nat.le_add_right _ 3) y0)
 have HN : ∀ x ∈ d2, w.heap.size + 3 ≤ x := fun x hx => Nat.le_trans y0 (f2.new x hx).1
 have hA : ∀ W, Abv (w.heap.size + 3) w1 W → Bel w W → CalL W (some ⟨B2, 0, none⟩) l2 d2 ∧ Fresh w W d2 ∧ Bel w W := fun W h hb => ⟨u2.abv calE f2 y0 h, FF.abv0 (fun x hx => HN x hx) h, hb⟩
 go_wp2
 refine bodyPost_ret (v := .agg #[.string x0, .int .i64 x1, .slice (some ⟨B2, 0, none⟩) n2 n2]) (by simp [results, Try.results92, go_sem, r10, r11, r12]) rfl ?_
 clear x10 r10 o10 x11 r11 o11 x12 r12 o12
 refine ⟨B2, d2, rfl, hA _ ?_ ?_⟩
 ·with_reducible repeat (first | exact Abv.refl _ _ | refine Abv.set ?_ (by omega) _)
 ·(with_reducible repeat (first | exact V1 | refine bel_set ?_ ?_ _)) <;> simp <;> omega

set_option maxHeartbeats 1000000 in
theorem eqTrip_same (x0 : ByteArray) (x1 : Int) (a2 : Option Addr) (n2 c2 : Nat) (l2 : List CalD) (bs2 : List Nat) (a2' : Option Addr) (c2' : Nat) (bs2' : List Nat) (w : World) (t2 : CalL w a2 l2 bs2) (e2 : l2.length = n2) (t2' : CalL w a2' l2 bs2') (m2 : n2 ≤ 1048576) :
  Calls Try.prog 97 #[.agg #[.string x0, .int .i64 x1, .slice a2 n2 c2], .agg #[.string x0, .int .i64 x1, .slice a2' n2 c2']] w fun e w' => e = .returned (.bool true) ∧ Bel w w' := by
 have S0 : Bel w ((w.alloc (.cells #[.string x0, .int .i64 x1, .slice a2 n2 c2] 92)).alloc (.cells #[.string x0, .int .i64 x1, .slice a2' n2 c2'] 92)) := bel_alloc (bel_alloc (Bel.refl _) _) _
 have X0 : Blk ((w.alloc (.cells #[.string x0, .int .i64 x1, .slice a2 n2 c2] 92)).alloc (.cells #[.string x0, .int .i64 x1, .slice a2' n2 c2'] 92)) w.heap.size [.string x0, .int .i64 x1, .slice a2 n2 c2] := (Blk.new w [.string x0, .int .i64 x1, .slice a2 n2 c2] 92).bel (bel_alloc (Bel.refl _) _)
 have Y0 : Blk ((w.alloc (.cells #[.string x0, .int .i64 x1, .slice a2 n2 c2] 92)).alloc (.cells #[.string x0, .int .i64 x1, .slice a2' n2 c2'] 92)) (w.heap.size + 1) [.string x0, .int .i64 x1, .slice a2' n2 c2'] := Blk.new1 w _ [.string x0, .int .i64 x1, .slice a2' n2 c2'] 92
 go_enter Try.func97, Try.ntmps97
 go_wp2_with fail
 refine (eqCallS_same _ _ _ _ _ l2 bs2 bs2' _ (t2.bel calE S0) (t2'.bel calE S0) e2 m2).mono ?_
 rintro e w1 ⟨rfl, hb1⟩
 have S1 := bel_step S0 hb1
 go_wp2
 go_ret
 exact ⟨rfl, S1⟩

set_option maxHeartbeats 1000000 in
theorem szTripS_any (a : Option Addr) (n c : Nat) (l : List TrpD) (bs : List Nat) (left : Int) (w : World) (hT : TrpL w a l bs) (hn : l.length = n) (hm : n ≤ 9223372036854775807) (h0 : 0 ≤ left) (h1 : left ≤ 1048576) :
  Calls Try.prog 47 #[.slice a n c, .int .i64 left] w fun e w' => e = .returned (.int .i64 (szR left (trpsSz l))) ∧ Bel w w' := by
 have Hn : Hid (l.length = n) := hn
 have HS : Hid (trpsSz l = n + sumTo trpSz l n) := (by unfold trpsSz; rw [hn] : trpsSz l = n + sumTo trpSz l n)
 clear hn
 by_cases hf : (n : Int) ≤ left
 ·go_enter Try.func47, Try.ntmps47
  go_wp2
  go_loopw [1, 5] (fun t i wr => ∃ (k : Nat) (cur : Int), k ≤ n ∧ i = .int .i64 k ∧ t = .int .i64 cur ∧ 0 ≤ cur ∧ cur ≤ 1048576 ∧ Hid (cur = left - n - sumTo trpSz l k) ∧ Bel w wr) (fun _ i _ => n - (intOf i).toNat)
  case atStart => exact ⟨0, left - n, Nat.zero_le _, rfl, rfl, by omega, by omega, (by rw [sumTo_zero]; omega : left - (n : Int) = left - n - ((sumTo trpSz l 0 : Nat) : Int)), Bel.refl _⟩
  case round =>
   obtain ⟨k, cur, hk, rfl, rfl, p0, p1, HC, hbel⟩ := hrel
   by_cases hlt : k < n
   ·have hkl : k < l.length := by rw [Hn.out]; exact hlt
    obtain ⟨b, off, f, rfl, hb, hx⟩ := (hT.bel trpE hbel).out hkl
    obtain ⟨s0, in1, c0, c1, a2, k2, m2, c2, t2⟩ := hx k hkl
    have HU : Hid (sumTo trpSz l (k + 1) = sumTo trpSz l k + trpSz l[k]) := sumTo_succ _ hkl
    have HL : Hid (sumTo trpSz l (k + 1) ≤ sumTo trpSz l n) := sumTo_le _ (by omega) Hn.out.symm
    obtain ⟨r, HR⟩ : ∃ r, Hid (szR cur (trpSz l[k]) = r) := ⟨_, (rfl : szR cur (trpSz l[k]) = _)⟩
    have hr1 : r ≤ 1048576 := by rw [← HR.out]; exact (szR_bd p1).1
    clear hx hT
    by_cases p : 0 ≤ r
    ·have HN : Hid (r = left - n - sumTo trpSz l (k + 1)) := by
      have h2 := HR.out; have h3 := HC.out; have h4 := HU.out
      have h5 : ((trpSz l[k] : Nat) : Int) ≤ cur := by
       by_cases h6 : ((trpSz l[k] : Nat) : Int) ≤ cur
       ·exact h6
       ·rw [szR_neg h6] at h2; omega
      rw [szR_pos h5] at h2
      show r = _
      omega
     go_wp2_with fail
     refine (szTrip_any _ _ a2 _ k2 l[k].calls _ cur _ t2 rfl m2 s0 p0 p1).mono ?_
     rintro e w1 ⟨rfl, hb1⟩
     rw [show szR cur (l[k].line.size + l[k].calls.length) = r from HR.out]
     have hB1 := bel_step hbel hb1
     clear hb1 hbel
     go_wp2
     go_roundw
     case rel => exact ⟨k + 1, r, by omega, by go_num, rfl, p, hr1, HN, hB1⟩
     case measure => simp [intOf]; omega
    ·have HN : Hid (szR left (trpsSz l) = -1) := by
      have h2 := HR.out; have h3 := HC.out; have h4 := HU.out; have h6 := HL.out
      rw [HS.out]
      refine szR_neg fun h7 => p ?_
      have h8 : ((trpSz l[k] : Nat) : Int) ≤ cur := by omega
      rw [← h2, szR_pos h8]
      omega
     go_wp2_with fail
     refine (szTrip_any _ _ a2 _ k2 l[k].calls _ cur _ t2 rfl m2 s0 p0 p1).mono ?_
     rintro e w1 ⟨rfl, hb1⟩
     rw [show szR cur (l[k].line.size + l[k].calls.length) = r from HR.out]
     have hB1 := bel_step hbel hb1
     clear hb1 hbel
     go_wp2
     go_ret
     exact ⟨ret_num HN.out.symm, hB1⟩
   ·have e : k = n := by omega
    subst e
    have HN : Hid (szR left (trpsSz l) = cur) := by
     have h3 := HC.out
     have h5 : ((k + sumTo trpSz l k : Nat) : Int) ≤ left := by omega
     rw [HS.out, szR_pos h5]
     show _ = _
     omega
    go_wp2
    go_ret
    exact ⟨ret_num HN.out.symm, hbel⟩
 ·have HN : Hid (szR left (trpsSz l) = -1) := by rw [HS.out]; exact szR_neg (by omega)
  go_enter Try.func47, Try.ntmps47
  go_wp2
  go_ret
  exact ⟨ret_num HN.out.symm, Bel.refl _⟩

theorem infoTrip : (Try.prog.info? 92).map (fun i => (i.zero, i.size, i.bytes)) = some (some (.agg #[.string ⟨#[]⟩, .int .i64 0, .slice none 0 0]), 3, 48) := by kernel_rfl
set_option maxHeartbeats 1000000 in
theorem toTripS_any (a : Option Addr) (n c : Nat) (l : List TrpD) (bs : List Nat) (w : World) (hT : TrpL w a l bs) (hn : l.length = n) (hm : n ≤ 1048576) (hs : ∀ i (h : i < l.length), l[i].calls.length ≤ 1048576) :
  Calls Try.prog 52 #[.slice a n c] w fun e w' => ∃ B cs, e = .returned (.slice (some ⟨B, 0, none⟩) n n) ∧ TrpL w' (some ⟨B, 0, none⟩) l cs ∧ Fresh w w' cs ∧ Bel w w' := by
 have Hn : Hid (l.length = n) := hn
 clear hn
 have hmk : ∀ w : World, (Instr.makeSlice 46 (.int .i64 n) (.int .i64 n)).run Try.prog w = .ok (.slice (some ⟨w.heap.size, 0, none⟩) n n) (w.alloc (.cells (madeCells #[.string ⟨#[]⟩, .int .i64 0, .slice none 0 0] (n * 3)) 92)) := fun w => by
  obtain ⟨i0, hi, hz0, hz1, hz2⟩ := info_parts infoTrip
  have := run_make (P := Try.prog) w 46 92 i0 (.agg #[.string ⟨#[]⟩, .int .i64 0, .slice none 0 0]) Try.underlying46 hi hz0 .i64 .i64 n n (by omega) (by omega) (by rw [hz2]; omega) (by omega)
  rw [hz1] at this
  exact this
 go_enter Try.func52, Try.ntmps52
 go_wp2
 go_loopw [4] (fun i wr => ∃ k : Nat, k ≤ n ∧ i = .int .i64 k ∧ (∃ f, Fill 3 TrpE wr w.heap.size n k l f) ∧ Bel w wr) (fun i _ => n - (intOf i).toNat)
 case atStart => exact ⟨0, Nat.zero_le _, rfl, ⟨_, Fill.start _ _ _ _ _ _⟩, bel_alloc (Bel.refl _) _⟩
 case round =>
  obtain ⟨k, hk, rfl, ⟨g, hrow⟩, hbel⟩ := hrel
  by_cases hlt : k < n
  ·have hkl : k < l.length := by rw [Hn.out]; exact hlt
   obtain ⟨b, off, f, rfl, hb, hx⟩ := (hT.bel trpE hbel).out hkl
   obtain ⟨s0, in1, c0, c1, a2, k2, m2, c2, t2⟩ := hx k hkl
   clear hx hT
   go_wp2_with fail
   refine (toTrip_any _ _ a2 _ k2 l[k].calls _ _ t2 rfl (hs k hkl)).mono ?_
   rintro e w1 ⟨D2, d2, rfl, u2, fr, hb1⟩
   have hr1 := hrow.bel trpE hb1
   have hB1 : Bel w w1 := bel_step hbel hb1
   obtain ⟨v0, d50⟩ := hr1.there (k * 3) (by omega)
   have f0 := hr1.free (k * 3)
   obtain ⟨v1, d51⟩ := hr1.there (k * 3 + 1) (by omega)
   have f1 := hr1.free (k * 3 + 1)
   obtain ⟨v2, d52⟩ := hr1.there (k * 3 + 2) (by omega)
   have f2 := hr1.free (k * 3 + 2)
   clear c0 c1 c2 hb hbel
   go_wp2
   go_roundw
   case rel =>
    have S := setRow_in w.heap.size [.string l[k].line, .int .i64 l[k].days, .slice (some ⟨D2, 0, none⟩) l[k].calls.length l[k].calls.length] w1 (k * 3) (fun j hj => hr1.there _ (by simp at hj; omega))
    have HE : CalL (setRow w1 w.heap.size (k * 3) [.string l[k].line, .int .i64 l[k].days, .slice (some ⟨D2, 0, none⟩) l[k].calls.length l[k].calls.length]) (some ⟨D2, 0, none⟩) l[k].calls d2 := u2.alike calE (setRow_alike _ (fun x hx => (fr.new x hx).2) (fun hx => by have h1 := (fr.new _ hx).1; have h2 := hrow.lt; omega))
    exact ⟨k + 1, by omega, by go_num, ⟨_, hrow.put trpE hb1 hlt Hn.out (fr) [.string l[k].line, .int .i64 l[k].days, .slice (some ⟨D2, 0, none⟩) l[k].calls.length l[k].calls.length] rfl ⟨s0, in1, S 0 (by simp), S 1 (by simp), _, _, m2, S 2 (by simp), HE⟩⟩, setRow_bel hB1 (Nat.le_refl _) [.string l[k].line, .int .i64 l[k].days, .slice (some ⟨D2, 0, none⟩) l[k].calls.length l[k].calls.length] (k * 3)⟩
   case measure => simp [intOf]; omega
  ·have e : k = n := by omega
   subst e
   go_wp2
   go_ret
   exact ⟨_, _, rfl, hrow.sl Hn.out, hrow.fresh (Nat.le_refl _), hbel⟩

set_option maxHeartbeats 1000000 in
theorem eqTripS_same (a a' : Option Addr) (n c c' : Nat) (l : List TrpD) (bs bs' : List Nat) (w : World) (hP : TrpL w a l bs) (hP' : TrpL w a' l bs') (hn : l.length = n) (hm : n ≤ 1048576) (hs : ∀ i (h : i < l.length), l[i].calls.length ≤ 1048576) :
  Calls Try.prog 61 #[.slice a n c, .slice a' n c'] w fun e w' => e = .returned (.bool true) ∧ Bel w w' := by
 have Hn : Hid (l.length = n) := hn
 clear hn
 go_enter Try.func61, Try.ntmps61
 go_wp2
 go_loopw [5] (fun i wr => ∃ k : Nat, k ≤ n ∧ i = .int .i64 k ∧ Bel w wr) (fun i _ => n - (intOf i).toNat)
 case atStart => exact ⟨0, Nat.zero_le _, rfl, Bel.refl _⟩
 case round =>
  obtain ⟨k, hk, rfl, hbel⟩ := hrel
  by_cases hlt : k < n
  ·have hkl : k < l.length := by rw [Hn.out]; exact hlt
   obtain ⟨b, off, f, rfl, h2, h3⟩ := (hP.bel trpE hbel).out hkl
   obtain ⟨b', off', f', rfl, h2', h3'⟩ := (hP'.bel trpE hbel).out hkl
   obtain ⟨s0, in1, c0, c1, a2, k2, m2, c2, t2⟩ := h3 k hkl
   obtain ⟨s0', in1', c0', c1', a2', k2', m2', c2', t2'⟩ := h3' k hkl
   have hR : ∀ w', Bel wr w' → w'.cell? ⟨b, off + k * 3, none⟩ = some (.string l[k].line) ∧ w'.cell? ⟨b, off + k * 3 + 1, none⟩ = some (.int .i64 l[k].days) ∧ w'.cell? ⟨b, off + k * 3 + 2, none⟩ = some (.slice a2 l[k].calls.length k2) ∧ w'.cell? ⟨b', off' + k * 3, none⟩ = some (.string l[k].line) ∧ w'.cell? ⟨b', off' + k * 3 + 1, none⟩ = some (.int .i64 l[k].days) ∧ w'.cell? ⟨b', off' + k * 3 + 2, none⟩ = some (.slice a2' l[k].calls.length k2') :=
    fun w' h => ⟨bel_cellM h h2 c0, bel_cellM h h2 c1, bel_cellM h h2 c2, bel_cellM h h2' c0', bel_cellM h h2' c1', bel_cellM h h2' c2'⟩
   have hlt' : (k : Int) < (n : Int) := by omega
   have g0 : Bel wr wr := Bel.refl _
   have T2 : ∀ w', Bel wr w' → CalL w' a2 l[k].calls (f k) := fun w' h => t2.bel calE h
   have T2' : ∀ w', Bel wr w' → CalL w' a2' l[k].calls (f' k) := fun w' h => t2'.bel calE h
   clear h3 h3' c0 c0' c1 c1' c2 c2' h2 h2' hP hP'
   go_wp2
   go_region_held3 (fun w' => Bel wr w') (repeat (first | exact g0 | refine Bel.drew ?_ | assumption | refine bel_then (by assumption) ?_))
    (first
     | (go_at_call 97; refine (eqTrip_same _ _ a2 _ k2 l[k].calls (f k) a2' k2' (f' k) _ (T2 _ (by assumption)) rfl (T2' _ (by assumption)) (hs k hkl)).mono ?_; rintro e w' ⟨rfl, hbk⟩))
   have hH : Bel wr w' := by assumption
   go_wp2
   go_roundw
   case rel => exact ⟨k + 1, by omega, by go_num, bel_step hbel hH⟩
   case measure => simp [intOf]; omega
  ·have e : k = n := by omega
   subst e
   go_wp2
   go_ret
   exact ⟨rfl, hbel⟩

end Go.Proofs.Ytkmccjjghpnejaa
