/-
  Contracts of the laws' own functions on Tag data: counted, copied, held against each other.
  Contracts of the laws' own functions on Node data: counted, copied, held against each other.
  Contracts of the laws' own functions on Int64 data: counted, copied, held against each other.
  Contracts of the laws' own functions on Way data: counted, copied, held against each other.
  Contracts of the laws' own functions on Part data: counted, copied, held against each other.
  Contracts of the laws' own functions on Area data: counted, copied, held against each other.
  Contracts of the laws' own functions on Map data: counted, copied, held against each other.
-/
import Derived.Test.YtldfcnlhjjiihaaGreatGB
import Derived.Deep.LoopGhost
import Derived.OwnWalk
import Derived.Deep.RegionHeld3
namespace Go.Proofs.YtldfcnlhjjiihaaGreat
open Go.RowKit

theorem toTag_any (x0 : ByteArray) (x1 : ByteArray) (w : World) :
  Calls Tryz.prog 118 #[.agg #[.string x0, .string x1]] w fun e w' => e = .returned (.agg #[.string x0, .string x1]) ∧ Bel w w' := by
 go_enter Tryz.func118, Tryz.ntmps118
 go_wp2
 exact bodyPost_ret (v := .agg #[.string x0, .string x1]) (by simp [results, Tryz.results118, go_sem]) rfl ⟨rfl, bel_alloc (bel_alloc (bel_alloc (Bel.refl _) _) _) _⟩

theorem eqTag_same (x0 : ByteArray) (x1 : ByteArray) (w : World) :
  Calls Tryz.prog 131 #[.agg #[.string x0, .string x1], .agg #[.string x0, .string x1]] w fun e w' => e = .returned (.bool true) ∧ Bel w w' := by
 go_enter Tryz.func131, Tryz.ntmps131
 go_wp2
 go_ret
 exact ⟨rfl, bel_alloc (bel_alloc (Bel.refl _) _) _⟩

theorem szTag_any (x0 x1 : ByteArray) (left : Int) (w : World) (hk : x0.size ≤ maxLen) (hv : x1.size ≤ maxLen) (h0 : 0 ≤ left) (h1 : left ≤ 1048576) :
  Calls Tryz.prog 114 #[.agg #[.string x0, .string x1], .int .i64 left] w fun e w' => e = .returned (.int .i64 (szR left (tagSz ⟨x0, x1⟩))) ∧ Bel w w' := by
 have hs : tagSz ⟨x0, x1⟩ = x0.size + x1.size := rfl
 rw [hs]; clear hs
 unfold maxLen at hk hv
 by_cases a1 : (x0.size : Int) ≤ left
 ·by_cases a2 : ((x0.size + x1.size : Nat) : Int) ≤ left
  ·rw [szR_pos a2]
   go_enter Tryz.func114, Tryz.ntmps114
   go_wp2
   go_ret
   exact ⟨ret_num (by omega), bel_alloc (Bel.refl _) _⟩
  ·rw [szR_neg a2]
   go_enter Tryz.func114, Tryz.ntmps114
   go_wp2
   go_ret
   exact ⟨rfl, bel_alloc (Bel.refl _) _⟩
 ·rw [szR_neg (by omega)]
  go_enter Tryz.func114, Tryz.ntmps114
  go_wp2
  go_ret
  exact ⟨rfl, bel_alloc (Bel.refl _) _⟩

set_option maxHeartbeats 1000000 in
theorem szTagS_any (a : Option Addr) (n c : Nat) (l : List TagD) (bs : List Nat) (left : Int) (w : World) (hT : Tags w a l bs) (hn : l.length = n) (hm : n ≤ 9223372036854775807) (h0 : 0 ≤ left) (h1 : left ≤ 1048576) :
  Calls Tryz.prog 73 #[.slice a n c, .int .i64 left] w fun e w' => e = .returned (.int .i64 (szR left (tagsSz l))) ∧ Bel w w' := by
 have Hn : Hid (l.length = n) := hn
 have HS : Hid (tagsSz l = n + sumTo tagSz l n) := (by unfold tagsSz; rw [hn] : tagsSz l = n + sumTo tagSz l n)
 clear hn
 by_cases hf : (n : Int) ≤ left
 ·go_enter Tryz.func73, Tryz.ntmps73
  go_wp2
  go_loopw [1, 5] (fun t i wr => ∃ (k : Nat) (cur : Int), k ≤ n ∧ i = .int .i64 k ∧ t = .int .i64 cur ∧ 0 ≤ cur ∧ cur ≤ 1048576 ∧ Hid (cur = left - n - sumTo tagSz l k) ∧ Bel w wr) (fun _ i _ => n - (intOf i).toNat)
  case atStart => exact ⟨0, left - n, Nat.zero_le _, rfl, rfl, by omega, by omega, (by rw [sumTo_zero]; omega : left - (n : Int) = left - n - ((sumTo tagSz l 0 : Nat) : Int)), Bel.refl _⟩
  case round =>
   obtain ⟨k, cur, hk, rfl, rfl, p0, p1, HC, hbel⟩ := hrel
   by_cases hlt : k < n
   ·have hkl : k < l.length := by rw [Hn.out]; exact hlt
    obtain ⟨b, off, f, rfl, hb, hx⟩ := (hT.bel tagE hbel).out hkl
    obtain ⟨_, s0, s1, c0, c1⟩ := hx k hkl
    have HU : Hid (sumTo tagSz l (k + 1) = sumTo tagSz l k + tagSz l[k]) := sumTo_succ _ hkl
    have HL : Hid (sumTo tagSz l (k + 1) ≤ sumTo tagSz l n) := sumTo_le _ (by omega) Hn.out.symm
    obtain ⟨r, HR⟩ : ∃ r, Hid (szR cur (tagSz l[k]) = r) := ⟨_, (rfl : szR cur (tagSz l[k]) = _)⟩
    have hr1 : r ≤ 1048576 := by rw [← HR.out]; exact (szR_bd p1).1
    clear hx hT
    by_cases p : 0 ≤ r
    ·have HN : Hid (r = left - n - sumTo tagSz l (k + 1)) := by
      have h2 := HR.out; have h3 := HC.out; have h4 := HU.out
      have h5 : ((tagSz l[k] : Nat) : Int) ≤ cur := by
       by_cases h6 : ((tagSz l[k] : Nat) : Int) ≤ cur
       ·exact h6
       ·rw [szR_neg h6] at h2; omega
      rw [szR_pos h5] at h2
      show r = _
      omega
     go_wp2_with fail
     refine (szTag_any l[k].k l[k].v cur _ s0 s1 p0 p1).mono ?_
     rintro e w1 ⟨rfl, hb1⟩
     rw [HR.out]
     have hB1 := bel_step hbel hb1
     clear hb1 hbel
     go_wp2
     go_roundw
     case rel => exact ⟨k + 1, r, by omega, by go_num, rfl, p, hr1, HN, hB1⟩
     case measure => simp [intOf]; omega
    ·have HN : Hid (szR left (tagsSz l) = -1) := by
      have h2 := HR.out; have h3 := HC.out; have h4 := HU.out; have h6 := HL.out
      rw [HS.out]
      refine szR_neg fun h7 => p ?_
      have h8 : ((tagSz l[k] : Nat) : Int) ≤ cur := by omega
      rw [← h2, szR_pos h8]
      omega
     go_wp2_with fail
     refine (szTag_any l[k].k l[k].v cur _ s0 s1 p0 p1).mono ?_
     rintro e w1 ⟨rfl, hb1⟩
     rw [HR.out]
     have hB1 := bel_step hbel hb1
     clear hb1 hbel
     go_wp2
     go_ret
     exact ⟨ret_num HN.out.symm, hB1⟩
   ·have e : k = n := by omega
    subst e
    have HN : Hid (szR left (tagsSz l) = cur) := by
     have h3 := HC.out
     have h5 : ((k + sumTo tagSz l k : Nat) : Int) ≤ left := by omega
     rw [HS.out, szR_pos h5]
     show _ = _
     omega
    go_wp2
    go_ret
    exact ⟨ret_num HN.out.symm, hbel⟩
 ·have HN : Hid (szR left (tagsSz l) = -1) := by rw [HS.out]; exact szR_neg (by omega)
  go_enter Tryz.func73, Tryz.ntmps73
  go_wp2
  go_ret
  exact ⟨ret_num HN.out.symm, Bel.refl _⟩

theorem infoTag : (Tryz.prog.info? 134).map (fun i => (i.zero, i.size, i.bytes)) = some (some (.agg #[.string ⟨#[]⟩, .string ⟨#[]⟩]), 2, 32) := by kernel_rfl
set_option maxHeartbeats 1000000 in
theorem toTagS_any (a : Option Addr) (n c : Nat) (l : List TagD) (bs : List Nat) (w : World) (hT : Tags w a l bs) (hn : l.length = n) (hm : n ≤ 1048576) :
  Calls Tryz.prog 83 #[.slice a n c] w fun e w' => ∃ B cs, e = .returned (.slice (some ⟨B, 0, none⟩) n n) ∧ Tags w' (some ⟨B, 0, none⟩) l cs ∧ Fresh w w' cs ∧ Bel w w' := by
 have Hn : Hid (l.length = n) := hn
 clear hn
 have hmk : ∀ w : World, (Instr.makeSlice 57 (.int .i64 n) (.int .i64 n)).run Tryz.prog w = .ok (.slice (some ⟨w.heap.size, 0, none⟩) n n) (w.alloc (.cells (madeCells #[.string ⟨#[]⟩, .string ⟨#[]⟩] (n * 2)) 134)) := fun w => by
  obtain ⟨i0, hi, hz0, hz1, hz2⟩ := info_parts infoTag
  have := run_make (P := Tryz.prog) w 57 134 i0 (.agg #[.string ⟨#[]⟩, .string ⟨#[]⟩]) Tryz.underlying57 hi hz0 .i64 .i64 n n (by omega) (by omega) (by rw [hz2]; omega) (by omega)
  rw [hz1] at this
  exact this
 go_enter Tryz.func83, Tryz.ntmps83
 go_wp2
 go_loopw [4] (fun i wr => ∃ k : Nat, k ≤ n ∧ i = .int .i64 k ∧ (∃ f, Fill 2 TagE wr w.heap.size n k l f) ∧ Bel w wr) (fun i _ => n - (intOf i).toNat)
 case atStart => exact ⟨0, Nat.zero_le _, rfl, ⟨_, Fill.start _ _ _ _ _ _⟩, bel_alloc (Bel.refl _) _⟩
 case round =>
  obtain ⟨k, hk, rfl, ⟨g, hrow⟩, hbel⟩ := hrel
  by_cases hlt : k < n
  ·have hkl : k < l.length := by rw [Hn.out]; exact hlt
   obtain ⟨b, off, f, rfl, hb, hx⟩ := (hT.bel tagE hbel).out hkl
   obtain ⟨_, s0, s1, c0, c1⟩ := hx k hkl
   clear hx hT
   go_wp2_with fail
   refine (toTag_any l[k].k l[k].v _).mono ?_
   rintro e w1 ⟨rfl, hb1⟩
   have hr1 := hrow.bel tagE hb1
   have hB1 : Bel w w1 := bel_step hbel hb1
   obtain ⟨v0, d50⟩ := hr1.there (k * 2) (by omega)
   have f0 := hr1.free (k * 2)
   obtain ⟨v1, d51⟩ := hr1.there (k * 2 + 1) (by omega)
   have f1 := hr1.free (k * 2 + 1)
   clear c0 c1 hb hbel
   go_wp2
   go_roundw
   case rel =>
    have S := setRow_in w.heap.size [.string l[k].k, .string l[k].v] w1 (k * 2) (fun j hj => hr1.there _ (by simp at hj; omega))
    exact ⟨k + 1, by omega, by go_num, ⟨_, hrow.put tagE hb1 hlt Hn.out (Fresh.nil _ _) [.string l[k].k, .string l[k].v] rfl ⟨rfl, s0, s1, S 0 (by simp), S 1 (by simp)⟩⟩, setRow_bel hB1 (Nat.le_refl _) [.string l[k].k, .string l[k].v] (k * 2)⟩
   case measure => simp [intOf]; omega
  ·have e : k = n := by omega
   subst e
   go_wp2
   go_ret
   exact ⟨_, _, rfl, hrow.sl Hn.out, hrow.fresh (Nat.le_refl _), hbel⟩

set_option maxHeartbeats 1000000 in
theorem eqTagS_same (a a' : Option Addr) (n c c' : Nat) (l : List TagD) (bs bs' : List Nat) (w : World) (hP : Tags w a l bs) (hP' : Tags w a' l bs') (hn : l.length = n) (hm : n ≤ 1048576) :
  Calls Tryz.prog 109 #[.slice a n c, .slice a' n c'] w fun e w' => e = .returned (.bool true) ∧ Bel w w' := by
 have Hn : Hid (l.length = n) := hn
 clear hn
 go_enter Tryz.func109, Tryz.ntmps109
 go_wp2
 go_loopw [5] (fun i wr => ∃ k : Nat, k ≤ n ∧ i = .int .i64 k ∧ Bel w wr) (fun i _ => n - (intOf i).toNat)
 case atStart => exact ⟨0, Nat.zero_le _, rfl, Bel.refl _⟩
 case round =>
  obtain ⟨k, hk, rfl, hbel⟩ := hrel
  by_cases hlt : k < n
  ·have hkl : k < l.length := by rw [Hn.out]; exact hlt
   obtain ⟨b, off, f, rfl, h2, h3⟩ := (hP.bel tagE hbel).out hkl
   obtain ⟨b', off', f', rfl, h2', h3'⟩ := (hP'.bel tagE hbel).out hkl
   obtain ⟨_, s0, s1, c0, c1⟩ := h3 k hkl
   obtain ⟨_, s0', s1', c0', c1'⟩ := h3' k hkl
   have hR : ∀ w', Bel wr w' → w'.cell? ⟨b, off + k * 2, none⟩ = some (.string l[k].k) ∧ w'.cell? ⟨b, off + k * 2 + 1, none⟩ = some (.string l[k].v) ∧ w'.cell? ⟨b', off' + k * 2, none⟩ = some (.string l[k].k) ∧ w'.cell? ⟨b', off' + k * 2 + 1, none⟩ = some (.string l[k].v) :=
    fun w' h => ⟨bel_cellM h h2 c0, bel_cellM h h2 c1, bel_cellM h h2' c0', bel_cellM h h2' c1'⟩
   have hlt' : (k : Int) < (n : Int) := by omega
   have g0 : Bel wr wr := Bel.refl _
   clear h3 h3' c0 c0' c1 c1' h2 h2' hP hP'
   go_wp2
   go_region_held3 (fun w' => Bel wr w') (repeat (first | exact g0 | refine Bel.drew ?_ | assumption | refine bel_then (by assumption) ?_))
    (first
     | (go_at_call 131; refine (eqTag_same l[k].k l[k].v _).mono ?_; rintro e w' ⟨rfl, hbk⟩))
   have hH : Bel wr w' := by assumption
   go_wp2
   go_roundw
   case rel => exact ⟨k + 1, by omega, by go_num, bel_step hbel hH⟩
   case measure => simp [intOf]; omega
  ·have e : k = n := by omega
   subst e
   go_wp2
   go_ret
   exact ⟨rfl, hbel⟩

end Go.Proofs.YtldfcnlhjjiihaaGreat

namespace Go.Proofs.YtldfcnlhjjiihaaGreat
open Go.RowKit

theorem eqPt_same (x y : Int) (w : World) :
  Calls Tryz.prog 110 #[pt x y, pt x y] w fun e w' => e = .returned (.bool true) ∧ Bel w w' := by
 go_enter Tryz.func110, Tryz.ntmps110
 go_wp2
 go_ret
 exact ⟨rfl, bel_alloc (bel_alloc (Bel.refl _) _) _⟩

set_option maxHeartbeats 1000000 in
theorem szNode_any (x0 : Int) (x1 : Int) (x2 : Int) (a3 : Option Addr) (n3 c3 : Nat) (l3 : List TagD) (bs3 : List Nat) (left : Int) (w : World) (t3 : Tags w a3 l3 bs3) (e3 : l3.length = n3) (m3 : n3 ≤ 9223372036854775807) (h0 : 0 ≤ left) (h1 : left ≤ 1048576) :
  Calls Tryz.prog 39 #[.agg #[.int .i64 x0, .int .i64 x1, .int .i64 x2, .slice a3 n3 c3], .int .i64 left] w fun e w' => e = .returned (.int .i64 (szR left (tagsSz l3))) ∧ Bel w w' := by
 obtain ⟨r0, H0⟩ : ∃ r, Hid (szR left (tagsSz l3) = r) := ⟨_, (rfl : szR left (tagsSz l3) = _)⟩
 have b0 : r0 ≤ 1048576 := by rw [← H0.out]; exact (szR_bd h1).1
 by_cases p0 : 0 ≤ r0
 ·have q0 : szR left (tagsSz l3) = r0 := H0.out
  have Q0 : Hid (szR left (tagsSz l3) = r0) := q0
  clear q0
  go_enter Tryz.func39, Tryz.ntmps39
  go_wp2_with (first | (go_at_call 73; refine (szTagS_any _ _ _ l3 bs3 _ _ (t3.bel tagE (bel_alloc (Bel.refl _) _)) e3 m3 h0 h1).mono ?_; rintro e w0 ⟨rfl, hb0⟩; have B0 := bel_step (bel_alloc (Bel.refl w) _) hb0; obtain ⟨hc0, _, hz0⟩ := bcell hb0; rw [H0.out]))
  go_ret
  exact ⟨ret_num Q0.out.symm, by assumption⟩
 ·have q0 : szR left (tagsSz l3) = r0 := H0.out
  have Q : Hid (szR left (tagsSz l3) = -1) := (by have := szR_bd (s := tagsSz l3) h1; rw [q0] at this ⊢; omega : szR left (tagsSz l3) = -1)
  clear q0
  go_enter Tryz.func39, Tryz.ntmps39
  go_wp2_with (first | (go_at_call 73; refine (szTagS_any _ _ _ l3 bs3 _ _ (t3.bel tagE (bel_alloc (Bel.refl _) _)) e3 m3 h0 h1).mono ?_; rintro e w0 ⟨rfl, hb0⟩; have B0 := bel_step (bel_alloc (Bel.refl w) _) hb0; obtain ⟨hc0, _, hz0⟩ := bcell hb0; rw [H0.out]))
  go_ret
  exact ⟨ret_num Q.out.symm, by assumption⟩

set_option maxHeartbeats 1000000 in
theorem toNode_any (x0 : Int) (x1 : Int) (x2 : Int) (a3 : Option Addr) (n3 c3 : Nat) (l3 : List TagD) (bs3 : List Nat) (w : World) (t3 : Tags w a3 l3 bs3) (e3 : l3.length = n3) (m3 : n3 ≤ 1048576) :
  Calls Tryz.prog 51 #[.agg #[.int .i64 x0, .int .i64 x1, .int .i64 x2, .slice a3 n3 c3]] w fun e w' => ∃ B3 d3, e = .returned (.agg #[.int .i64 x0, .int .i64 x1, .int .i64 x2, .slice (some ⟨B3, 0, none⟩) n3 n3]) ∧ Tags w' (some ⟨B3, 0, none⟩) l3 d3 ∧ Fresh w w' (d3) ∧ Bel w w' := by
 have E3 : Hid (l3.length = n3) := e3
 clear e3
 go_enter Tryz.func51, Tryz.ntmps51
 have S0 : Bel w (((w.alloc (.cells #[.int .i64 x0, .int .i64 x1, .int .i64 x2, .slice a3 n3 c3] 93)).alloc (.cells #[.int .i64 0, .int .i64 0, .int .i64 0, .slice none 0 0] 102)).alloc (.cells #[.int .i64 x0, .int .i64 0, .int .i64 0, .slice none 0 0] 102)) := bel_alloc (bel_alloc (bel_alloc (Bel.refl _) _) _) _
 have X0 : Blk (((w.alloc (.cells #[.int .i64 x0, .int .i64 x1, .int .i64 x2, .slice a3 n3 c3] 93)).alloc (.cells #[.int .i64 0, .int .i64 0, .int .i64 0, .slice none 0 0] 102)).alloc (.cells #[.int .i64 x0, .int .i64 0, .int .i64 0, .slice none 0 0] 102)) (w.heap.size) [.int .i64 x0, .int .i64 x1, .int .i64 x2, .slice a3 n3 c3] := (Blk.new w [.int .i64 x0, .int .i64 x1, .int .i64 x2, .slice a3 n3 c3] 93).bel (bel_alloc (bel_alloc (Bel.refl _) _) _)
 have R0 : Blk (((w.alloc (.cells #[.int .i64 x0, .int .i64 x1, .int .i64 x2, .slice a3 n3 c3] 93)).alloc (.cells #[.int .i64 0, .int .i64 0, .int .i64 0, .slice none 0 0] 102)).alloc (.cells #[.int .i64 x0, .int .i64 0, .int .i64 0, .slice none 0 0] 102)) (w.heap.size + 1) [.int .i64 0, .int .i64 0, .int .i64 0, .slice none 0 0] := (Blk.new1 w _ [.int .i64 0, .int .i64 0, .int .i64 0, .slice none 0 0] 102).bel (bel_alloc (Bel.refl _) _)
 have O0 : Blk (((w.alloc (.cells #[.int .i64 x0, .int .i64 x1, .int .i64 x2, .slice a3 n3 c3] 93)).alloc (.cells #[.int .i64 0, .int .i64 0, .int .i64 0, .slice none 0 0] 102)).alloc (.cells #[.int .i64 x0, .int .i64 0, .int .i64 0, .slice none 0 0] 102)) (w.heap.size + 1 + 1) [.int .i64 x0, .int .i64 0, .int .i64 0, .slice none 0 0] := Blk.new2 w _ _ [.int .i64 x0, .int .i64 0, .int .i64 0, .slice none 0 0] 102
 have y0 : w.heap.size + 3 ≤ (((w.alloc (.cells #[.int .i64 x0, .int .i64 x1, .int .i64 x2, .slice a3 n3 c3] 93)).alloc (.cells #[.int .i64 0, .int .i64 0, .int .i64 0, .slice none 0 0] 102)).alloc (.cells #[.int .i64 x0, .int .i64 0, .int .i64 0, .slice none 0 0] 102)).heap.size := by simp
 go_wp2_with fail
 refine (toPoint_any _ _ _).mono ?_
 rintro e w1 ⟨rfl, hb1⟩
 have V1 := bel_step S0 hb1
 have X1 := X0.bel hb1
 have R1 := R0.bel hb1
 have O1 := O0.bel hb1
 have z1 : w.heap.size + 3 ≤ w1.heap.size := Nat.le_trans y0 hb1.out.size
 have x10 : w1.cell? ⟨w.heap.size, 0, none⟩ = some (.int .i64 x0) := X1.cell 0 (by simp)
 have r10 : w1.cell? ⟨w.heap.size + 1, 0, none⟩ = some (.int .i64 0) := R1.cell 0 (by simp)
 have o10 : w1.cell? ⟨w.heap.size + 1 + 1, 0, none⟩ = some (.int .i64 x0) := O1.cell 0 (by simp)
 have x11 : w1.cell? ⟨w.heap.size, 1, none⟩ = some (.int .i64 x1) := X1.cell 1 (by simp)
 have r11 : w1.cell? ⟨w.heap.size + 1, 1, none⟩ = some (.int .i64 0) := R1.cell 1 (by simp)
 have o11 : w1.cell? ⟨w.heap.size + 1 + 1, 1, none⟩ = some (.int .i64 0) := O1.cell 1 (by simp)
 have x12 : w1.cell? ⟨w.heap.size, 2, none⟩ = some (.int .i64 x2) := X1.cell 2 (by simp)
 have r12 : w1.cell? ⟨w.heap.size + 1, 2, none⟩ = some (.int .i64 0) := R1.cell 2 (by simp)
 have o12 : w1.cell? ⟨w.heap.size + 1 + 1, 2, none⟩ = some (.int .i64 0) := O1.cell 2 (by simp)
 have x13 : w1.cell? ⟨w.heap.size, 3, none⟩ = some (.slice a3 n3 c3) := X1.cell 3 (by simp)
 have r13 : w1.cell? ⟨w.heap.size + 1, 3, none⟩ = some (.slice none 0 0) := R1.cell 3 (by simp)
 have o13 : w1.cell? ⟨w.heap.size + 1 + 1, 3, none⟩ = some (.slice none 0 0) := O1.cell 3 (by simp)
 have g1 := X1.free
 have gr1 := R1.free
 have go1 := O1.free
 have S1 : Bel w (((w1).setCell ⟨w.heap.size + 1 + 1, 1, none⟩ (.int .i64 x1)).setCell ⟨w.heap.size + 1 + 1, 2, none⟩ (.int .i64 x2)) := bel_set (bel_set (V1) (by show w.heap.size ≤ w.heap.size + 1 + 1; omega) _) (by show w.heap.size ≤ w.heap.size + 1 + 1; omega) _
 have O1 : Blk (((w1).setCell ⟨w.heap.size + 1 + 1, 1, none⟩ (.int .i64 x1)).setCell ⟨w.heap.size + 1 + 1, 2, none⟩ (.int .i64 x2)) (w.heap.size + 1 + 1) [.int .i64 x0, .int .i64 x1, .int .i64 x2, .slice none 0 0] := ((O1).set 1 (.int .i64 x1) (by simp)).set 2 (.int .i64 x2) (by simp)
 have X1 : Blk (((w1).setCell ⟨w.heap.size + 1 + 1, 1, none⟩ (.int .i64 x1)).setCell ⟨w.heap.size + 1 + 1, 2, none⟩ (.int .i64 x2)) (w.heap.size) [.int .i64 x0, .int .i64 x1, .int .i64 x2, .slice a3 n3 c3] := ((X1).far (by omega)).far (by omega)
 have R1 : Blk (((w1).setCell ⟨w.heap.size + 1 + 1, 1, none⟩ (.int .i64 x1)).setCell ⟨w.heap.size + 1 + 1, 2, none⟩ (.int .i64 x2)) (w.heap.size + 1) [.int .i64 0, .int .i64 0, .int .i64 0, .slice none 0 0] := ((R1).far (by omega)).far (by omega)
 have y1 : w.heap.size + 3 ≤ (((w1).setCell ⟨w.heap.size + 1 + 1, 1, none⟩ (.int .i64 x1)).setCell ⟨w.heap.size + 1 + 1, 2, none⟩ (.int .i64 x2)).heap.size := by simpa [World.setCell] using z1
 have b1 : Abv (w.heap.size + 3) w1 (((w1).setCell ⟨w.heap.size + 1 + 1, 1, none⟩ (.int .i64 x1)).setCell ⟨w.heap.size + 1 + 1, 2, none⟩ (.int .i64 x2)) := ((Abv.refl (w.heap.size + 3) w1).set (by omega) _).set (by omega) _
 have k1 : w1.heap.size ≤ (((w1).setCell ⟨w.heap.size + 1 + 1, 1, none⟩ (.int .i64 x1)).setCell ⟨w.heap.size + 1 + 1, 2, none⟩ (.int .i64 x2)).heap.size := b1.1
 go_wp2_with fail
 refine (toTagS_any _ _ _ l3 bs3 _ (t3.bel tagE S1) E3.out m3).mono ?_
 rintro e w2 ⟨B3, d3, rfl, u3, f3, hb2⟩
 have V2 := bel_step S1 hb2
 have X2 := X1.bel hb2
 have R2 := R1.bel hb2
 have O2 := O1.bel hb2
 have z2 : w.heap.size + 3 ≤ w2.heap.size := Nat.le_trans y1 hb2.out.size
 have x20 : w2.cell? ⟨w.heap.size, 0, none⟩ = some (.int .i64 x0) := X2.cell 0 (by simp)
 have r20 : w2.cell? ⟨w.heap.size + 1, 0, none⟩ = some (.int .i64 0) := R2.cell 0 (by simp)
 have o20 : w2.cell? ⟨w.heap.size + 1 + 1, 0, none⟩ = some (.int .i64 x0) := O2.cell 0 (by simp)
 have x21 : w2.cell? ⟨w.heap.size, 1, none⟩ = some (.int .i64 x1) := X2.cell 1 (by simp)
 have r21 : w2.cell? ⟨w.heap.size + 1, 1, none⟩ = some (.int .i64 0) := R2.cell 1 (by simp)
 have o21 : w2.cell? ⟨w.heap.size + 1 + 1, 1, none⟩ = some (.int .i64 x1) := O2.cell 1 (by simp)
 have x22 : w2.cell? ⟨w.heap.size, 2, none⟩ = some (.int .i64 x2) := X2.cell 2 (by simp)
 have r22 : w2.cell? ⟨w.heap.size + 1, 2, none⟩ = some (.int .i64 0) := R2.cell 2 (by simp)
 have o22 : w2.cell? ⟨w.heap.size + 1 + 1, 2, none⟩ = some (.int .i64 x2) := O2.cell 2 (by simp)
 have x23 : w2.cell? ⟨w.heap.size, 3, none⟩ = some (.slice a3 n3 c3) := X2.cell 3 (by simp)
 have r23 : w2.cell? ⟨w.heap.size + 1, 3, none⟩ = some (.slice none 0 0) := R2.cell 3 (by simp)
 have o23 : w2.cell? ⟨w.heap.size + 1 + 1, 3, none⟩ = some (.slice none 0 0) := O2.cell 3 (by simp)
 have g2 := X2.free
 have gr2 := R2.free
 have go2 := O2.free
 have c3 : Abv (w.heap.size + 3) w2 w2 := Abv.refl _ _
 have q3 := f3.abv y1 c3
 have F3 : Fresh w w2 d3 := q3.old (Nat.le_trans (Nat.le_add_right _ 3) y1)
 have FF := F3
 have HN : ∀ x ∈ d3, w.heap.size + 3 ≤ x := fun x hx => Nat.le_trans y1 (f3.new x hx).1
 have hA : ∀ W, Abv (w.heap.size + 3) w2 W → Bel w W → Tags W (some ⟨B3, 0, none⟩) l3 d3 ∧ Fresh w W (d3) ∧ Bel w W := fun W h hb => ⟨u3.abv tagE f3 y1 (c3.trans h), FF.abv0 (fun x hx => HN x hx) h, hb⟩
 go_wp2
 refine bodyPost_ret (v := .agg #[.int .i64 x0, .int .i64 x1, .int .i64 x2, .slice (some ⟨B3, 0, none⟩) n3 n3]) (by simp [results, Tryz.results51, go_sem, r20, r21, r22, r23]) rfl ?_
 clear x20 r20 o20 x21 r21 o21 x22 r22 o22 x23 r23 o23
 refine ⟨B3, d3, rfl, hA _ ?_ ?_⟩
 ·with_reducible repeat (first | exact Abv.refl _ _ | refine Abv.set ?_ (by omega) _)
 ·(with_reducible repeat (first | exact V2 | refine bel_set ?_ ?_ _)) <;> simp <;> omega

set_option maxHeartbeats 1000000 in
theorem eqNode_same (x0 : Int) (x1 : Int) (x2 : Int) (a3 : Option Addr) (n3 c3 : Nat) (l3 : List TagD) (bs3 : List Nat) (a3' : Option Addr) (c3' : Nat) (bs3' : List Nat) (w : World) (t3 : Tags w a3 l3 bs3) (e3 : l3.length = n3) (t3' : Tags w a3' l3 bs3') (m3 : n3 ≤ 1048576) :
  Calls Tryz.prog 64 #[.agg #[.int .i64 x0, .int .i64 x1, .int .i64 x2, .slice a3 n3 c3], .agg #[.int .i64 x0, .int .i64 x1, .int .i64 x2, .slice a3' n3 c3']] w fun e w' => e = .returned (.bool true) ∧ Bel w w' := by
 have S0 : Bel w ((w.alloc (.cells #[.int .i64 x0, .int .i64 x1, .int .i64 x2, .slice a3 n3 c3] 102)).alloc (.cells #[.int .i64 x0, .int .i64 x1, .int .i64 x2, .slice a3' n3 c3'] 102)) := bel_alloc (bel_alloc (Bel.refl _) _) _
 have X0 : Blk ((w.alloc (.cells #[.int .i64 x0, .int .i64 x1, .int .i64 x2, .slice a3 n3 c3] 102)).alloc (.cells #[.int .i64 x0, .int .i64 x1, .int .i64 x2, .slice a3' n3 c3'] 102)) w.heap.size [.int .i64 x0, .int .i64 x1, .int .i64 x2, .slice a3 n3 c3] := (Blk.new w [.int .i64 x0, .int .i64 x1, .int .i64 x2, .slice a3 n3 c3] 102).bel (bel_alloc (Bel.refl _) _)
 have Y0 : Blk ((w.alloc (.cells #[.int .i64 x0, .int .i64 x1, .int .i64 x2, .slice a3 n3 c3] 102)).alloc (.cells #[.int .i64 x0, .int .i64 x1, .int .i64 x2, .slice a3' n3 c3'] 102)) (w.heap.size + 1) [.int .i64 x0, .int .i64 x1, .int .i64 x2, .slice a3' n3 c3'] := Blk.new1 w _ [.int .i64 x0, .int .i64 x1, .int .i64 x2, .slice a3' n3 c3'] 102
 go_enter Tryz.func64, Tryz.ntmps64
 go_wp2_with fail
 refine (eqPt_same _ _ _).mono ?_
 rintro e w1 ⟨rfl, hb1⟩
 have S1 := bel_step S0 hb1
 have X1 := X0.bel hb1
 have Y1 := Y0.bel hb1
 have x10 : w1.cell? ⟨w.heap.size, 0, none⟩ = some (.int .i64 x0) := X1.cell 0 (by simp)
 have y10 : w1.cell? ⟨w.heap.size + 1, 0, none⟩ = some (.int .i64 x0) := Y1.cell 0 (by simp)
 have x11 : w1.cell? ⟨w.heap.size, 1, none⟩ = some (.int .i64 x1) := X1.cell 1 (by simp)
 have y11 : w1.cell? ⟨w.heap.size + 1, 1, none⟩ = some (.int .i64 x1) := Y1.cell 1 (by simp)
 have x12 : w1.cell? ⟨w.heap.size, 2, none⟩ = some (.int .i64 x2) := X1.cell 2 (by simp)
 have y12 : w1.cell? ⟨w.heap.size + 1, 2, none⟩ = some (.int .i64 x2) := Y1.cell 2 (by simp)
 have x13 : w1.cell? ⟨w.heap.size, 3, none⟩ = some (.slice a3 n3 c3) := X1.cell 3 (by simp)
 have y13 : w1.cell? ⟨w.heap.size + 1, 3, none⟩ = some (.slice a3' n3 c3') := Y1.cell 3 (by simp)
 go_wp2_with fail
 refine (eqTagS_same _ _ _ _ _ l3 bs3 bs3' _ (t3.bel tagE S1) (t3'.bel tagE S1) e3 m3).mono ?_
 rintro e w2 ⟨rfl, hb2⟩
 have S2 := bel_step S1 hb2
 go_wp2
 go_ret
 exact ⟨rfl, S2⟩

set_option maxHeartbeats 1000000 in
theorem szNodeS_any (a : Option Addr) (n c : Nat) (l : List NodeD) (bs : List Nat) (left : Int) (w : World) (hT : Nodes w a l bs) (hn : l.length = n) (hm : n ≤ 9223372036854775807) (h0 : 0 ≤ left) (h1 : left ≤ 1048576) :
  Calls Tryz.prog 14 #[.slice a n c, .int .i64 left] w fun e w' => e = .returned (.int .i64 (szR left (nodesSz l))) ∧ Bel w w' := by
 have Hn : Hid (l.length = n) := hn
 have HS : Hid (nodesSz l = n + sumTo nodeSz l n) := (by unfold nodesSz; rw [hn] : nodesSz l = n + sumTo nodeSz l n)
 clear hn
 by_cases hf : (n : Int) ≤ left
 ·go_enter Tryz.func14, Tryz.ntmps14
  go_wp2
  go_loopw [1, 5] (fun t i wr => ∃ (k : Nat) (cur : Int), k ≤ n ∧ i = .int .i64 k ∧ t = .int .i64 cur ∧ 0 ≤ cur ∧ cur ≤ 1048576 ∧ Hid (cur = left - n - sumTo nodeSz l k) ∧ Bel w wr) (fun _ i _ => n - (intOf i).toNat)
  case atStart => exact ⟨0, left - n, Nat.zero_le _, rfl, rfl, by omega, by omega, (by rw [sumTo_zero]; omega : left - (n : Int) = left - n - ((sumTo nodeSz l 0 : Nat) : Int)), Bel.refl _⟩
  case round =>
   obtain ⟨k, cur, hk, rfl, rfl, p0, p1, HC, hbel⟩ := hrel
   by_cases hlt : k < n
   ·have hkl : k < l.length := by rw [Hn.out]; exact hlt
    obtain ⟨b, off, f, rfl, hb, hx⟩ := (hT.bel nodeE hbel).out hkl
    obtain ⟨in0, in1, in2, c0, c1, c2, a3, k3, m3, c3, t3⟩ := hx k hkl
    have HU : Hid (sumTo nodeSz l (k + 1) = sumTo nodeSz l k + nodeSz l[k]) := sumTo_succ _ hkl
    have HL : Hid (sumTo nodeSz l (k + 1) ≤ sumTo nodeSz l n) := sumTo_le _ (by omega) Hn.out.symm
    obtain ⟨r, HR⟩ : ∃ r, Hid (szR cur (nodeSz l[k]) = r) := ⟨_, (rfl : szR cur (nodeSz l[k]) = _)⟩
    have hr1 : r ≤ 1048576 := by rw [← HR.out]; exact (szR_bd p1).1
    clear hx hT
    by_cases p : 0 ≤ r
    ·have HN : Hid (r = left - n - sumTo nodeSz l (k + 1)) := by
      have h2 := HR.out; have h3 := HC.out; have h4 := HU.out
      have h5 : ((nodeSz l[k] : Nat) : Int) ≤ cur := by
       by_cases h6 : ((nodeSz l[k] : Nat) : Int) ≤ cur
       ·exact h6
       ·rw [szR_neg h6] at h2; omega
      rw [szR_pos h5] at h2
      show r = _
      omega
     go_wp2_with fail
     refine (szNode_any _ _ _ a3 _ k3 l[k].tags _ cur _ t3 rfl m3 p0 p1).mono ?_
     rintro e w1 ⟨rfl, hb1⟩
     rw [show szR cur (tagsSz l[k].tags) = r from HR.out]
     have hB1 := bel_step hbel hb1
     clear hb1 hbel
     go_wp2
     go_roundw
     case rel => exact ⟨k + 1, r, by omega, by go_num, rfl, p, hr1, HN, hB1⟩
     case measure => simp [intOf]; omega
    ·have HN : Hid (szR left (nodesSz l) = -1) := by
      have h2 := HR.out; have h3 := HC.out; have h4 := HU.out; have h6 := HL.out
      rw [HS.out]
      refine szR_neg fun h7 => p ?_
      have h8 : ((nodeSz l[k] : Nat) : Int) ≤ cur := by omega
      rw [← h2, szR_pos h8]
      omega
     go_wp2_with fail
     refine (szNode_any _ _ _ a3 _ k3 l[k].tags _ cur _ t3 rfl m3 p0 p1).mono ?_
     rintro e w1 ⟨rfl, hb1⟩
     rw [show szR cur (tagsSz l[k].tags) = r from HR.out]
     have hB1 := bel_step hbel hb1
     clear hb1 hbel
     go_wp2
     go_ret
     exact ⟨ret_num HN.out.symm, hB1⟩
   ·have e : k = n := by omega
    subst e
    have HN : Hid (szR left (nodesSz l) = cur) := by
     have h3 := HC.out
     have h5 : ((k + sumTo nodeSz l k : Nat) : Int) ≤ left := by omega
     rw [HS.out, szR_pos h5]
     show _ = _
     omega
    go_wp2
    go_ret
    exact ⟨ret_num HN.out.symm, hbel⟩
 ·have HN : Hid (szR left (nodesSz l) = -1) := by rw [HS.out]; exact szR_neg (by omega)
  go_enter Tryz.func14, Tryz.ntmps14
  go_wp2
  go_ret
  exact ⟨ret_num HN.out.symm, Bel.refl _⟩

theorem infoNode : (Tryz.prog.info? 102).map (fun i => (i.zero, i.size, i.bytes)) = some (some (.agg #[.int .i64 0, .int .i64 0, .int .i64 0, .slice none 0 0]), 4, 48) := by kernel_rfl
set_option maxHeartbeats 1000000 in
theorem toNodeS_any (a : Option Addr) (n c : Nat) (l : List NodeD) (bs : List Nat) (w : World) (hT : Nodes w a l bs) (hn : l.length = n) (hm : n ≤ 1048576) (hs : ∀ i (h : i < l.length), l[i].tags.length ≤ 1048576) :
  Calls Tryz.prog 23 #[.slice a n c] w fun e w' => ∃ B cs, e = .returned (.slice (some ⟨B, 0, none⟩) n n) ∧ Nodes w' (some ⟨B, 0, none⟩) l cs ∧ Fresh w w' cs ∧ Bel w w' := by
 have Hn : Hid (l.length = n) := hn
 clear hn
 have hmk : ∀ w : World, (Instr.makeSlice 35 (.int .i64 n) (.int .i64 n)).run Tryz.prog w = .ok (.slice (some ⟨w.heap.size, 0, none⟩) n n) (w.alloc (.cells (madeCells #[.int .i64 0, .int .i64 0, .int .i64 0, .slice none 0 0] (n * 4)) 102)) := fun w => by
  obtain ⟨i0, hi, hz0, hz1, hz2⟩ := info_parts infoNode
  have := run_make (P := Tryz.prog) w 35 102 i0 (.agg #[.int .i64 0, .int .i64 0, .int .i64 0, .slice none 0 0]) Tryz.underlying35 hi hz0 .i64 .i64 n n (by omega) (by omega) (by rw [hz2]; omega) (by omega)
  rw [hz1] at this
  exact this
 go_enter Tryz.func23, Tryz.ntmps23
 go_wp2
 go_loopw [4] (fun i wr => ∃ k : Nat, k ≤ n ∧ i = .int .i64 k ∧ (∃ f, Fill 4 NodeE wr w.heap.size n k l f) ∧ Bel w wr) (fun i _ => n - (intOf i).toNat)
 case atStart => exact ⟨0, Nat.zero_le _, rfl, ⟨_, Fill.start _ _ _ _ _ _⟩, bel_alloc (Bel.refl _) _⟩
 case round =>
  obtain ⟨k, hk, rfl, ⟨g, hrow⟩, hbel⟩ := hrel
  by_cases hlt : k < n
  ·have hkl : k < l.length := by rw [Hn.out]; exact hlt
   obtain ⟨b, off, f, rfl, hb, hx⟩ := (hT.bel nodeE hbel).out hkl
   obtain ⟨in0, in1, in2, c0, c1, c2, a3, k3, m3, c3, t3⟩ := hx k hkl
   clear hx hT
   go_wp2_with fail
   refine (toNode_any _ _ _ a3 _ k3 l[k].tags _ _ t3 rfl (hs k hkl)).mono ?_
   rintro e w1 ⟨D3, d3, rfl, u3, fr, hb1⟩
   have hr1 := hrow.bel nodeE hb1
   have hB1 : Bel w w1 := bel_step hbel hb1
   obtain ⟨v0, d50⟩ := hr1.there (k * 4) (by omega)
   have f0 := hr1.free (k * 4)
   obtain ⟨v1, d51⟩ := hr1.there (k * 4 + 1) (by omega)
   have f1 := hr1.free (k * 4 + 1)
   obtain ⟨v2, d52⟩ := hr1.there (k * 4 + 2) (by omega)
   have f2 := hr1.free (k * 4 + 2)
   obtain ⟨v3, d53⟩ := hr1.there (k * 4 + 3) (by omega)
   have f3 := hr1.free (k * 4 + 3)
   clear c0 c1 c2 c3 hb hbel
   go_wp2
   go_roundw
   case rel =>
    have S := setRow_in w.heap.size [.int .i64 l[k].id, .int .i64 l[k].x, .int .i64 l[k].y, .slice (some ⟨D3, 0, none⟩) l[k].tags.length l[k].tags.length] w1 (k * 4) (fun j hj => hr1.there _ (by simp at hj; omega))
    have HE : Tags (setRow w1 w.heap.size (k * 4) [.int .i64 l[k].id, .int .i64 l[k].x, .int .i64 l[k].y, .slice (some ⟨D3, 0, none⟩) l[k].tags.length l[k].tags.length]) (some ⟨D3, 0, none⟩) l[k].tags d3 := u3.alike tagE (setRow_alike _ (fun x hx => (fr.new x hx).2) (fun hx => by have h1 := (fr.new _ hx).1; have h2 := hrow.lt; omega))
    exact ⟨k + 1, by omega, by go_num, ⟨_, hrow.put nodeE hb1 hlt Hn.out (fr) [.int .i64 l[k].id, .int .i64 l[k].x, .int .i64 l[k].y, .slice (some ⟨D3, 0, none⟩) l[k].tags.length l[k].tags.length] rfl ⟨in0, in1, in2, S 0 (by simp), S 1 (by simp), S 2 (by simp), _, _, m3, S 3 (by simp), HE⟩⟩, setRow_bel hB1 (Nat.le_refl _) [.int .i64 l[k].id, .int .i64 l[k].x, .int .i64 l[k].y, .slice (some ⟨D3, 0, none⟩) l[k].tags.length l[k].tags.length] (k * 4)⟩
   case measure => simp [intOf]; omega
  ·have e : k = n := by omega
   subst e
   go_wp2
   go_ret
   exact ⟨_, _, rfl, hrow.sl Hn.out, hrow.fresh (Nat.le_refl _), hbel⟩

set_option maxHeartbeats 1000000 in
theorem eqNodeS_same (a a' : Option Addr) (n c c' : Nat) (l : List NodeD) (bs bs' : List Nat) (w : World) (hP : Nodes w a l bs) (hP' : Nodes w a' l bs') (hn : l.length = n) (hm : n ≤ 1048576) (hs : ∀ i (h : i < l.length), l[i].tags.length ≤ 1048576) :
  Calls Tryz.prog 31 #[.slice a n c, .slice a' n c'] w fun e w' => e = .returned (.bool true) ∧ Bel w w' := by
 have Hn : Hid (l.length = n) := hn
 clear hn
 go_enter Tryz.func31, Tryz.ntmps31
 go_wp2
 go_loopw [5] (fun i wr => ∃ k : Nat, k ≤ n ∧ i = .int .i64 k ∧ Bel w wr) (fun i _ => n - (intOf i).toNat)
 case atStart => exact ⟨0, Nat.zero_le _, rfl, Bel.refl _⟩
 case round =>
  obtain ⟨k, hk, rfl, hbel⟩ := hrel
  by_cases hlt : k < n
  ·have hkl : k < l.length := by rw [Hn.out]; exact hlt
   obtain ⟨b, off, f, rfl, h2, h3⟩ := (hP.bel nodeE hbel).out hkl
   obtain ⟨b', off', f', rfl, h2', h3'⟩ := (hP'.bel nodeE hbel).out hkl
   obtain ⟨in0, in1, in2, c0, c1, c2, a3, k3, m3, c3, t3⟩ := h3 k hkl
   obtain ⟨in0', in1', in2', c0', c1', c2', a3', k3', m3', c3', t3'⟩ := h3' k hkl
   have hR : ∀ w', Bel wr w' → w'.cell? ⟨b, off + k * 4, none⟩ = some (.int .i64 l[k].id) ∧ w'.cell? ⟨b, off + k * 4 + 1, none⟩ = some (.int .i64 l[k].x) ∧ w'.cell? ⟨b, off + k * 4 + 2, none⟩ = some (.int .i64 l[k].y) ∧ w'.cell? ⟨b, off + k * 4 + 3, none⟩ = some (.slice a3 l[k].tags.length k3) ∧ w'.cell? ⟨b', off' + k * 4, none⟩ = some (.int .i64 l[k].id) ∧ w'.cell? ⟨b', off' + k * 4 + 1, none⟩ = some (.int .i64 l[k].x) ∧ w'.cell? ⟨b', off' + k * 4 + 2, none⟩ = some (.int .i64 l[k].y) ∧ w'.cell? ⟨b', off' + k * 4 + 3, none⟩ = some (.slice a3' l[k].tags.length k3') :=
    fun w' h => ⟨bel_cellM h h2 c0, bel_cellM h h2 c1, bel_cellM h h2 c2, bel_cellM h h2 c3, bel_cellM h h2' c0', bel_cellM h h2' c1', bel_cellM h h2' c2', bel_cellM h h2' c3'⟩
   have hlt' : (k : Int) < (n : Int) := by omega
   have g0 : Bel wr wr := Bel.refl _
   have T3 : ∀ w', Bel wr w' → Tags w' a3 l[k].tags (f k) := fun w' h => t3.bel tagE h
   have T3' : ∀ w', Bel wr w' → Tags w' a3' l[k].tags (f' k) := fun w' h => t3'.bel tagE h
   clear h3 h3' c0 c0' c1 c1' c2 c2' c3 c3' h2 h2' hP hP'
   go_wp2
   go_region_held3 (fun w' => Bel wr w') (repeat (first | exact g0 | refine Bel.drew ?_ | assumption | refine bel_then (by assumption) ?_))
    (first
     | (go_at_call 64; refine (eqNode_same _ _ _ a3 _ k3 l[k].tags (f k) a3' k3' (f' k) _ (T3 _ (by assumption)) rfl (T3' _ (by assumption)) (hs k hkl)).mono ?_; rintro e w' ⟨rfl, hbk⟩))
   have hH : Bel wr w' := by assumption
   go_wp2
   go_roundw
   case rel => exact ⟨k + 1, by omega, by go_num, bel_step hbel hH⟩
   case measure => simp [intOf]; omega
  ·have e : k = n := by omega
   subst e
   go_wp2
   go_ret
   exact ⟨rfl, hbel⟩

end Go.Proofs.YtldfcnlhjjiihaaGreat

namespace Go.Proofs.YtldfcnlhjjiihaaGreat
open Go.RowKit

theorem szInt64S_any (a : Option Addr) (n c : Nat) (l : List Int) (bs : List Nat) (left : Int) (w : World) (_hT : Ints w a l bs) (hn : l.length = n) (hm : n ≤ 9223372036854775807) (h0 : 0 ≤ left) (h1 : left ≤ 1048576) :
  Calls Tryz.prog 74 #[.slice a n c, .int .i64 left] w fun e w' => e = .returned (.int .i64 (szR left l.length)) ∧ Bel w w' := by
 rw [hn]
 by_cases hf : (n : Int) ≤ left
 ·rw [szR_pos hf]
  go_enter Tryz.func74, Tryz.ntmps74
  go_wp2
  go_ret
  exact ⟨rfl, Bel.refl _⟩
 ·rw [szR_neg hf]
  go_enter Tryz.func74, Tryz.ntmps74
  go_wp2
  go_ret
  exact ⟨rfl, Bel.refl _⟩

theorem infoInt64 : (Tryz.prog.info? 2).map (fun i => (i.zero, i.size, i.bytes)) = some (some (.int .i64 0), 1, 8) := by kernel_rfl
set_option maxHeartbeats 1000000 in
theorem toInt64S_any (a : Option Addr) (n c : Nat) (l : List Int) (bs : List Nat) (w : World) (hT : Ints w a l bs) (hn : l.length = n) (hm : n ≤ 1048576) :
  Calls Tryz.prog 84 #[.slice a n c] w fun e w' => ∃ B cs, e = .returned (.slice (some ⟨B, 0, none⟩) n n) ∧ Ints w' (some ⟨B, 0, none⟩) l cs ∧ Fresh w w' cs ∧ Bel w w' := by
 have Hn : Hid (l.length = n) := hn
 clear hn
 have hmk : ∀ w : World, (Instr.makeSlice 56 (.int .i64 n) (.int .i64 n)).run Tryz.prog w = .ok (.slice (some ⟨w.heap.size, 0, none⟩) n n) (w.alloc (.cells (madeCells #[.int .i64 0] (n * 1)) 2)) := fun w => by
  obtain ⟨i0, hi, hz0, hz1, hz2⟩ := info_parts infoInt64
  have := run_make (P := Tryz.prog) w 56 2 i0 (.int .i64 0) Tryz.underlying56 hi hz0 .i64 .i64 n n (by omega) (by omega) (by rw [hz2]; omega) (by omega)
  rw [hz1] at this
  exact this
 go_enter Tryz.func84, Tryz.ntmps84
 go_wp2
 go_loopw [4] (fun i wr => ∃ k : Nat, k ≤ n ∧ i = .int .i64 k ∧ (∃ f, Fill 1 IntE wr w.heap.size n k l f) ∧ Bel w wr) (fun i _ => n - (intOf i).toNat)
 case atStart => exact ⟨0, Nat.zero_le _, rfl, ⟨_, by have := Fill.start (E := IntE) w #[.int .i64 0] 1 n 2 l; rw [Nat.mul_one] at this; exact this⟩, bel_alloc (Bel.refl _) _⟩
 case round =>
  obtain ⟨k, hk, rfl, ⟨g, hrow⟩, hbel⟩ := hrel
  by_cases hlt : k < n
  ·have hkl : k < l.length := by rw [Hn.out]; exact hlt
   obtain ⟨b, off, f, rfl, hb, hx⟩ := (hT.bel intE hbel).out hkl
   obtain ⟨_, in0, c0⟩ := hx k hkl
   clear hx hT
   have hr1 := hrow
   have hB1 := hbel
   simp only [Nat.mul_one] at c0
   obtain ⟨v0, d50⟩ := hr1.there (k) (by omega)
   have f0 := hr1.free (k)
   go_wp2
   go_roundw
   case rel =>
    have S := setRow_in w.heap.size [.int .i64 l[k]] wr (k * 1) (fun j hj => hr1.there _ (by simp at hj; omega))
    have PP := hrow.put intE (Bel.refl _) hlt Hn.out (Fresh.nil _ _) [.int .i64 l[k]] rfl ⟨rfl, in0, S 0 (by simp)⟩
    rw [Nat.mul_one] at PP
    exact ⟨k + 1, by omega, by go_num, ⟨_, PP⟩, setRow_bel hB1 (Nat.le_refl _) [.int .i64 l[k]] k⟩
   case measure => simp [intOf]; omega
  ·have e : k = n := by omega
   subst e
   go_wp2
   go_ret
   exact ⟨_, _, rfl, hrow.sl Hn.out, hrow.fresh (Nat.le_refl _), hbel⟩

set_option maxHeartbeats 1000000 in
theorem eqInt64S_same (a a' : Option Addr) (n c c' : Nat) (l : List Int) (bs bs' : List Nat) (w : World) (hP : Ints w a l bs) (hP' : Ints w a' l bs') (hn : l.length = n) (hm : n ≤ 1048576) :
  Calls Tryz.prog 111 #[.slice a n c, .slice a' n c'] w fun e w' => e = .returned (.bool true) ∧ Bel w w' := by
 have Hn : Hid (l.length = n) := hn
 clear hn
 go_enter Tryz.func111, Tryz.ntmps111
 go_wp2
 go_loopw [5] (fun i wr => ∃ k : Nat, k ≤ n ∧ i = .int .i64 k ∧ Bel w wr) (fun i _ => n - (intOf i).toNat)
 case atStart => exact ⟨0, Nat.zero_le _, rfl, Bel.refl _⟩
 case round =>
  obtain ⟨k, hk, rfl, hbel⟩ := hrel
  by_cases hlt : k < n
  ·have hkl : k < l.length := by rw [Hn.out]; exact hlt
   obtain ⟨b, off, f, rfl, h2, h3⟩ := (hP.bel intE hbel).out hkl
   obtain ⟨b', off', f', rfl, h2', h3'⟩ := (hP'.bel intE hbel).out hkl
   obtain ⟨_, in0, c0⟩ := h3 k hkl
   obtain ⟨_, in0', c0'⟩ := h3' k hkl
   simp only [Nat.mul_one] at c0 c0'
   have hR : ∀ w', Bel wr w' → w'.cell? ⟨b, off + k, none⟩ = some (.int .i64 l[k]) ∧ w'.cell? ⟨b', off' + k, none⟩ = some (.int .i64 l[k]) :=
    fun w' h => ⟨bel_cellM h h2 c0, bel_cellM h h2' c0'⟩
   have hlt' : (k : Int) < (n : Int) := by omega
   have g0 : Bel wr wr := Bel.refl _
   clear h3 h3' c0 c0' h2 h2' hP hP'
   go_wp2
   go_quiet (fail)
   have hH : Bel wr (wr.drewN nq) := bel_drewN (Bel.refl _) _
   go_wp2
   go_roundw
   case rel => exact ⟨k + 1, by omega, by go_num, bel_step hbel hH⟩
   case measure => simp [intOf]; omega
  ·have e : k = n := by omega
   subst e
   go_wp2
   go_ret
   exact ⟨rfl, hbel⟩

end Go.Proofs.YtldfcnlhjjiihaaGreat

namespace Go.Proofs.YtldfcnlhjjiihaaGreat
open Go.RowKit

set_option maxHeartbeats 1000000 in
theorem szWay_any (x0 : Int) (a1 : Option Addr) (n1 c1 : Nat) (l1 : List Int) (bs1 : List Nat) (a2 : Option Addr) (n2 c2 : Nat) (l2 : List TagD) (bs2 : List Nat) (left : Int) (w : World) (t1 : Ints w a1 l1 bs1) (e1 : l1.length = n1) (t2 : Tags w a2 l2 bs2) (e2 : l2.length = n2) (m1 : n1 ≤ 9223372036854775807) (m2 : n2 ≤ 9223372036854775807) (h0 : 0 ≤ left) (h1 : left ≤ 1048576) :
  Calls Tryz.prog 40 #[.agg #[.int .i64 x0, .slice a1 n1 c1, .slice a2 n2 c2], .int .i64 left] w fun e w' => e = .returned (.int .i64 (szR left (l1.length + tagsSz l2))) ∧ Bel w w' := by
 obtain ⟨r0, H0⟩ : ∃ r, Hid (szR left (l1.length) = r) := ⟨_, (rfl : szR left (l1.length) = _)⟩
 have b0 : r0 ≤ 1048576 := by rw [← H0.out]; exact (szR_bd h1).1
 obtain ⟨r1, H1⟩ : ∃ r, Hid (szR r0 (tagsSz l2) = r) := ⟨_, (rfl : szR r0 (tagsSz l2) = _)⟩
 have b1 : r1 ≤ 1048576 := by rw [← H1.out]; exact (szR_bd b0).1
 by_cases p0 : 0 ≤ r0
 ·have q0 : szR left (l1.length) = r0 := H0.out
  have Q0 : Hid (szR left (l1.length) = r0) := q0
  by_cases p1 : 0 ≤ r1
  ·have q1 : szR left (l1.length + tagsSz l2) = r1 := by rw [← szR_add (by rw [q0]; exact p0), q0]; exact H1.out
   have Q1 : Hid (szR left (l1.length + tagsSz l2) = r1) := q1
   clear q0 q1
   go_enter Tryz.func40, Tryz.ntmps40
   go_wp2_with (first | (go_at_call 74; refine (szInt64S_any _ _ _ l1 bs1 _ _ (t1.bel intE (bel_alloc (Bel.refl _) _)) e1 m1 h0 h1).mono ?_; rintro e w0 ⟨rfl, hb0⟩; have B0 := bel_step (bel_alloc (Bel.refl w) _) hb0; obtain ⟨hc0, _, hz0⟩ := bcell hb0; rw [H0.out]) | (go_at_call 73; refine (szTagS_any _ _ _ l2 bs2 _ _ (t2.bel tagE (B0)) e2 m2 p0 b0).mono ?_; rintro e w1 ⟨rfl, hb1⟩; have B1 := bel_step B0 hb1; obtain ⟨hc1, _, hz1⟩ := bcell hb1; rw [H1.out]))
   go_ret
   exact ⟨ret_num Q1.out.symm, by assumption⟩
  ·have q1 : szR left (l1.length + tagsSz l2) = r1 := by rw [← szR_add (by rw [q0]; exact p0), q0]; exact H1.out
   have Q : Hid (szR left (l1.length + tagsSz l2) = -1) := (by have := szR_bd (s := l1.length + tagsSz l2) h1; rw [q1] at this ⊢; omega : szR left (l1.length + tagsSz l2) = -1)
   clear q0 q1
   go_enter Tryz.func40, Tryz.ntmps40
   go_wp2_with (first | (go_at_call 74; refine (szInt64S_any _ _ _ l1 bs1 _ _ (t1.bel intE (bel_alloc (Bel.refl _) _)) e1 m1 h0 h1).mono ?_; rintro e w0 ⟨rfl, hb0⟩; have B0 := bel_step (bel_alloc (Bel.refl w) _) hb0; obtain ⟨hc0, _, hz0⟩ := bcell hb0; rw [H0.out]) | (go_at_call 73; refine (szTagS_any _ _ _ l2 bs2 _ _ (t2.bel tagE (B0)) e2 m2 p0 b0).mono ?_; rintro e w1 ⟨rfl, hb1⟩; have B1 := bel_step B0 hb1; obtain ⟨hc1, _, hz1⟩ := bcell hb1; rw [H1.out]))
   go_ret
   exact ⟨ret_num Q.out.symm, by assumption⟩
 ·have q0 : szR left (l1.length) = r0 := H0.out
  have Q : Hid (szR left (l1.length + tagsSz l2) = -1) := szR_out (by rw [q0]; omega)
  clear q0
  go_enter Tryz.func40, Tryz.ntmps40
  go_wp2_with (first | (go_at_call 74; refine (szInt64S_any _ _ _ l1 bs1 _ _ (t1.bel intE (bel_alloc (Bel.refl _) _)) e1 m1 h0 h1).mono ?_; rintro e w0 ⟨rfl, hb0⟩; have B0 := bel_step (bel_alloc (Bel.refl w) _) hb0; obtain ⟨hc0, _, hz0⟩ := bcell hb0; rw [H0.out]))
  go_ret
  exact ⟨ret_num Q.out.symm, by assumption⟩

set_option maxHeartbeats 1000000 in
theorem toWay_any (x0 : Int) (a1 : Option Addr) (n1 c1 : Nat) (l1 : List Int) (bs1 : List Nat) (a2 : Option Addr) (n2 c2 : Nat) (l2 : List TagD) (bs2 : List Nat) (w : World) (t1 : Ints w a1 l1 bs1) (e1 : l1.length = n1) (t2 : Tags w a2 l2 bs2) (e2 : l2.length = n2) (m1 : n1 ≤ 1048576) (m2 : n2 ≤ 1048576) :
  Calls Tryz.prog 52 #[.agg #[.int .i64 x0, .slice a1 n1 c1, .slice a2 n2 c2]] w fun e w' => ∃ B1 d1 B2 d2, e = .returned (.agg #[.int .i64 x0, .slice (some ⟨B1, 0, none⟩) n1 n1, .slice (some ⟨B2, 0, none⟩) n2 n2]) ∧ Ints w' (some ⟨B1, 0, none⟩) l1 d1 ∧ Tags w' (some ⟨B2, 0, none⟩) l2 d2 ∧ Fresh w w' (d1 ++ d2) ∧ Bel w w' := by
 have E1 : Hid (l1.length = n1) := e1
 have E2 : Hid (l2.length = n2) := e2
 clear e1 e2
 go_enter Tryz.func52, Tryz.ntmps52
 have S0 : Bel w (((w.alloc (.cells #[.int .i64 x0, .slice a1 n1 c1, .slice a2 n2 c2] 96)).alloc (.cells #[.int .i64 0, .slice none 0 0, .slice none 0 0] 59)).alloc (.cells #[.int .i64 x0, .slice none 0 0, .slice none 0 0] 59)) := bel_alloc (bel_alloc (bel_alloc (Bel.refl _) _) _) _
 have X0 : Blk (((w.alloc (.cells #[.int .i64 x0, .slice a1 n1 c1, .slice a2 n2 c2] 96)).alloc (.cells #[.int .i64 0, .slice none 0 0, .slice none 0 0] 59)).alloc (.cells #[.int .i64 x0, .slice none 0 0, .slice none 0 0] 59)) (w.heap.size) [.int .i64 x0, .slice a1 n1 c1, .slice a2 n2 c2] := (Blk.new w [.int .i64 x0, .slice a1 n1 c1, .slice a2 n2 c2] 96).bel (bel_alloc (bel_alloc (Bel.refl _) _) _)
 have R0 : Blk (((w.alloc (.cells #[.int .i64 x0, .slice a1 n1 c1, .slice a2 n2 c2] 96)).alloc (.cells #[.int .i64 0, .slice none 0 0, .slice none 0 0] 59)).alloc (.cells #[.int .i64 x0, .slice none 0 0, .slice none 0 0] 59)) (w.heap.size + 1) [.int .i64 0, .slice none 0 0, .slice none 0 0] := (Blk.new1 w _ [.int .i64 0, .slice none 0 0, .slice none 0 0] 59).bel (bel_alloc (Bel.refl _) _)
 have O0 : Blk (((w.alloc (.cells #[.int .i64 x0, .slice a1 n1 c1, .slice a2 n2 c2] 96)).alloc (.cells #[.int .i64 0, .slice none 0 0, .slice none 0 0] 59)).alloc (.cells #[.int .i64 x0, .slice none 0 0, .slice none 0 0] 59)) (w.heap.size + 1 + 1) [.int .i64 x0, .slice none 0 0, .slice none 0 0] := Blk.new2 w _ _ [.int .i64 x0, .slice none 0 0, .slice none 0 0] 59
 have y0 : w.heap.size + 3 ≤ (((w.alloc (.cells #[.int .i64 x0, .slice a1 n1 c1, .slice a2 n2 c2] 96)).alloc (.cells #[.int .i64 0, .slice none 0 0, .slice none 0 0] 59)).alloc (.cells #[.int .i64 x0, .slice none 0 0, .slice none 0 0] 59)).heap.size := by simp
 go_wp2_with fail
 refine (toInt64S_any _ _ _ l1 bs1 _ (t1.bel intE S0) E1.out m1).mono ?_
 rintro e w1 ⟨B1, d1, rfl, u1, f1, hb1⟩
 have V1 := bel_step S0 hb1
 have X1 := X0.bel hb1
 have R1 := R0.bel hb1
 have O1 := O0.bel hb1
 have z1 : w.heap.size + 3 ≤ w1.heap.size := Nat.le_trans y0 hb1.out.size
 have x10 : w1.cell? ⟨w.heap.size, 0, none⟩ = some (.int .i64 x0) := X1.cell 0 (by simp)
 have r10 : w1.cell? ⟨w.heap.size + 1, 0, none⟩ = some (.int .i64 0) := R1.cell 0 (by simp)
 have o10 : w1.cell? ⟨w.heap.size + 1 + 1, 0, none⟩ = some (.int .i64 x0) := O1.cell 0 (by simp)
 have x11 : w1.cell? ⟨w.heap.size, 1, none⟩ = some (.slice a1 n1 c1) := X1.cell 1 (by simp)
 have r11 : w1.cell? ⟨w.heap.size + 1, 1, none⟩ = some (.slice none 0 0) := R1.cell 1 (by simp)
 have o11 : w1.cell? ⟨w.heap.size + 1 + 1, 1, none⟩ = some (.slice none 0 0) := O1.cell 1 (by simp)
 have x12 : w1.cell? ⟨w.heap.size, 2, none⟩ = some (.slice a2 n2 c2) := X1.cell 2 (by simp)
 have r12 : w1.cell? ⟨w.heap.size + 1, 2, none⟩ = some (.slice none 0 0) := R1.cell 2 (by simp)
 have o12 : w1.cell? ⟨w.heap.size + 1 + 1, 2, none⟩ = some (.slice none 0 0) := O1.cell 2 (by simp)
 have g1 := X1.free
 have gr1 := R1.free
 have go1 := O1.free
 have S1 : Bel w ((w1).setCell ⟨w.heap.size + 1 + 1, 1, none⟩ (.slice (some ⟨B1, 0, none⟩) n1 n1)) := bel_set (V1) (by show w.heap.size ≤ w.heap.size + 1 + 1; omega) _
 have O1 : Blk ((w1).setCell ⟨w.heap.size + 1 + 1, 1, none⟩ (.slice (some ⟨B1, 0, none⟩) n1 n1)) (w.heap.size + 1 + 1) [.int .i64 x0, .slice (some ⟨B1, 0, none⟩) n1 n1, .slice none 0 0] := (O1).set 1 (.slice (some ⟨B1, 0, none⟩) n1 n1) (by simp)
 have X1 : Blk ((w1).setCell ⟨w.heap.size + 1 + 1, 1, none⟩ (.slice (some ⟨B1, 0, none⟩) n1 n1)) (w.heap.size) [.int .i64 x0, .slice a1 n1 c1, .slice a2 n2 c2] := (X1).far (by omega)
 have R1 : Blk ((w1).setCell ⟨w.heap.size + 1 + 1, 1, none⟩ (.slice (some ⟨B1, 0, none⟩) n1 n1)) (w.heap.size + 1) [.int .i64 0, .slice none 0 0, .slice none 0 0] := (R1).far (by omega)
 have y1 : w.heap.size + 3 ≤ ((w1).setCell ⟨w.heap.size + 1 + 1, 1, none⟩ (.slice (some ⟨B1, 0, none⟩) n1 n1)).heap.size := by simpa [World.setCell] using z1
 have b1 : Abv (w.heap.size + 3) w1 ((w1).setCell ⟨w.heap.size + 1 + 1, 1, none⟩ (.slice (some ⟨B1, 0, none⟩) n1 n1)) := (Abv.refl (w.heap.size + 3) w1).set (by omega) _
 have k1 : w1.heap.size ≤ ((w1).setCell ⟨w.heap.size + 1 + 1, 1, none⟩ (.slice (some ⟨B1, 0, none⟩) n1 n1)).heap.size := b1.1
 go_wp2_with fail
 refine (toTagS_any _ _ _ l2 bs2 _ (t2.bel tagE S1) E2.out m2).mono ?_
 rintro e w2 ⟨B2, d2, rfl, u2, f2, hb2⟩
 have V2 := bel_step S1 hb2
 have X2 := X1.bel hb2
 have R2 := R1.bel hb2
 have O2 := O1.bel hb2
 have z2 : w.heap.size + 3 ≤ w2.heap.size := Nat.le_trans y1 hb2.out.size
 have x20 : w2.cell? ⟨w.heap.size, 0, none⟩ = some (.int .i64 x0) := X2.cell 0 (by simp)
 have r20 : w2.cell? ⟨w.heap.size + 1, 0, none⟩ = some (.int .i64 0) := R2.cell 0 (by simp)
 have o20 : w2.cell? ⟨w.heap.size + 1 + 1, 0, none⟩ = some (.int .i64 x0) := O2.cell 0 (by simp)
 have x21 : w2.cell? ⟨w.heap.size, 1, none⟩ = some (.slice a1 n1 c1) := X2.cell 1 (by simp)
 have r21 : w2.cell? ⟨w.heap.size + 1, 1, none⟩ = some (.slice none 0 0) := R2.cell 1 (by simp)
 have o21 : w2.cell? ⟨w.heap.size + 1 + 1, 1, none⟩ = some (.slice (some ⟨B1, 0, none⟩) n1 n1) := O2.cell 1 (by simp)
 have x22 : w2.cell? ⟨w.heap.size, 2, none⟩ = some (.slice a2 n2 c2) := X2.cell 2 (by simp)
 have r22 : w2.cell? ⟨w.heap.size + 1, 2, none⟩ = some (.slice none 0 0) := R2.cell 2 (by simp)
 have o22 : w2.cell? ⟨w.heap.size + 1 + 1, 2, none⟩ = some (.slice none 0 0) := O2.cell 2 (by simp)
 have g2 := X2.free
 have gr2 := R2.free
 have go2 := O2.free
 have c1 : Abv (w.heap.size + 3) w1 w2 := b1.bel hb2
 have q1 := f1.abv y0 c1
 have F1 : Fresh w w2 d1 := q1.old (Nat.le_trans (Nat.le_add_right _ 3) y0)
 have c2 : Abv (w.heap.size + 3) w2 w2 := Abv.refl _ _
 have q2 := f2.abv y1 c2
 have F2 : Fresh w w2 d2 := q2.old (Nat.le_trans (Nat.le_add_right _ 3) y1)
 have FF := F1.app F2 fun x hx hx' => by have h1 := (f1.new x hx).2; have h2 := (f2.new x hx').1; omega
 have HN : ∀ x ∈ d1 ++ d2, w.heap.size + 3 ≤ x := fun x hx => (List.mem_append.1 hx).elim (fun h => Nat.le_trans y0 (f1.new x h).1) (fun h => Nat.le_trans y1 (f2.new x h).1)
 have hA : ∀ W, Abv (w.heap.size + 3) w2 W → Bel w W → Ints W (some ⟨B1, 0, none⟩) l1 d1 ∧ Tags W (some ⟨B2, 0, none⟩) l2 d2 ∧ Fresh w W (d1 ++ d2) ∧ Bel w W := fun W h hb => ⟨u1.abv intE f1 y0 (c1.trans h), u2.abv tagE f2 y1 (c2.trans h), FF.abv0 (fun x hx => HN x hx) h, hb⟩
 go_wp2
 refine bodyPost_ret (v := .agg #[.int .i64 x0, .slice (some ⟨B1, 0, none⟩) n1 n1, .slice (some ⟨B2, 0, none⟩) n2 n2]) (by simp [results, Tryz.results52, go_sem, r20, r21, r22]) rfl ?_
 clear x20 r20 o20 x21 r21 o21 x22 r22 o22
 refine ⟨B1, d1, B2, d2, rfl, hA _ ?_ ?_⟩
 ·with_reducible repeat (first | exact Abv.refl _ _ | refine Abv.set ?_ (by omega) _)
 ·(with_reducible repeat (first | exact V2 | refine bel_set ?_ ?_ _)) <;> simp <;> omega

set_option maxHeartbeats 1000000 in
theorem eqWay_same (x0 : Int) (a1 : Option Addr) (n1 c1 : Nat) (l1 : List Int) (bs1 : List Nat) (a2 : Option Addr) (n2 c2 : Nat) (l2 : List TagD) (bs2 : List Nat) (a1' : Option Addr) (c1' : Nat) (bs1' : List Nat) (a2' : Option Addr) (c2' : Nat) (bs2' : List Nat) (w : World) (t1 : Ints w a1 l1 bs1) (e1 : l1.length = n1) (t2 : Tags w a2 l2 bs2) (e2 : l2.length = n2) (t1' : Ints w a1' l1 bs1') (t2' : Tags w a2' l2 bs2') (m1 : n1 ≤ 1048576) (m2 : n2 ≤ 1048576) :
  Calls Tryz.prog 65 #[.agg #[.int .i64 x0, .slice a1 n1 c1, .slice a2 n2 c2], .agg #[.int .i64 x0, .slice a1' n1 c1', .slice a2' n2 c2']] w fun e w' => e = .returned (.bool true) ∧ Bel w w' := by
 have S0 : Bel w ((w.alloc (.cells #[.int .i64 x0, .slice a1 n1 c1, .slice a2 n2 c2] 59)).alloc (.cells #[.int .i64 x0, .slice a1' n1 c1', .slice a2' n2 c2'] 59)) := bel_alloc (bel_alloc (Bel.refl _) _) _
 have X0 : Blk ((w.alloc (.cells #[.int .i64 x0, .slice a1 n1 c1, .slice a2 n2 c2] 59)).alloc (.cells #[.int .i64 x0, .slice a1' n1 c1', .slice a2' n2 c2'] 59)) w.heap.size [.int .i64 x0, .slice a1 n1 c1, .slice a2 n2 c2] := (Blk.new w [.int .i64 x0, .slice a1 n1 c1, .slice a2 n2 c2] 59).bel (bel_alloc (Bel.refl _) _)
 have Y0 : Blk ((w.alloc (.cells #[.int .i64 x0, .slice a1 n1 c1, .slice a2 n2 c2] 59)).alloc (.cells #[.int .i64 x0, .slice a1' n1 c1', .slice a2' n2 c2'] 59)) (w.heap.size + 1) [.int .i64 x0, .slice a1' n1 c1', .slice a2' n2 c2'] := Blk.new1 w _ [.int .i64 x0, .slice a1' n1 c1', .slice a2' n2 c2'] 59
 go_enter Tryz.func65, Tryz.ntmps65
 go_wp2_with fail
 refine (eqInt64S_same _ _ _ _ _ l1 bs1 bs1' _ (t1.bel intE S0) (t1'.bel intE S0) e1 m1).mono ?_
 rintro e w1 ⟨rfl, hb1⟩
 have S1 := bel_step S0 hb1
 have X1 := X0.bel hb1
 have Y1 := Y0.bel hb1
 have x10 : w1.cell? ⟨w.heap.size, 0, none⟩ = some (.int .i64 x0) := X1.cell 0 (by simp)
 have y10 : w1.cell? ⟨w.heap.size + 1, 0, none⟩ = some (.int .i64 x0) := Y1.cell 0 (by simp)
 have x11 : w1.cell? ⟨w.heap.size, 1, none⟩ = some (.slice a1 n1 c1) := X1.cell 1 (by simp)
 have y11 : w1.cell? ⟨w.heap.size + 1, 1, none⟩ = some (.slice a1' n1 c1') := Y1.cell 1 (by simp)
 have x12 : w1.cell? ⟨w.heap.size, 2, none⟩ = some (.slice a2 n2 c2) := X1.cell 2 (by simp)
 have y12 : w1.cell? ⟨w.heap.size + 1, 2, none⟩ = some (.slice a2' n2 c2') := Y1.cell 2 (by simp)
 go_wp2_with fail
 refine (eqTagS_same _ _ _ _ _ l2 bs2 bs2' _ (t2.bel tagE S1) (t2'.bel tagE S1) e2 m2).mono ?_
 rintro e w2 ⟨rfl, hb2⟩
 have S2 := bel_step S1 hb2
 go_wp2
 go_ret
 exact ⟨rfl, S2⟩

set_option maxHeartbeats 1000000 in
theorem szWayS_any (a : Option Addr) (n c : Nat) (l : List WayD) (bs : List Nat) (left : Int) (w : World) (hT : Ways w a l bs) (hn : l.length = n) (hm : n ≤ 9223372036854775807) (h0 : 0 ≤ left) (h1 : left ≤ 1048576) :
  Calls Tryz.prog 15 #[.slice a n c, .int .i64 left] w fun e w' => e = .returned (.int .i64 (szR left (waysSz l))) ∧ Bel w w' := by
 have Hn : Hid (l.length = n) := hn
 have HS : Hid (waysSz l = n + sumTo waySz l n) := (by unfold waysSz; rw [hn] : waysSz l = n + sumTo waySz l n)
 clear hn
 by_cases hf : (n : Int) ≤ left
 ·go_enter Tryz.func15, Tryz.ntmps15
  go_wp2
  go_loopw [1, 5] (fun t i wr => ∃ (k : Nat) (cur : Int), k ≤ n ∧ i = .int .i64 k ∧ t = .int .i64 cur ∧ 0 ≤ cur ∧ cur ≤ 1048576 ∧ Hid (cur = left - n - sumTo waySz l k) ∧ Bel w wr) (fun _ i _ => n - (intOf i).toNat)
  case atStart => exact ⟨0, left - n, Nat.zero_le _, rfl, rfl, by omega, by omega, (by rw [sumTo_zero]; omega : left - (n : Int) = left - n - ((sumTo waySz l 0 : Nat) : Int)), Bel.refl _⟩
  case round =>
   obtain ⟨k, cur, hk, rfl, rfl, p0, p1, HC, hbel⟩ := hrel
   by_cases hlt : k < n
   ·have hkl : k < l.length := by rw [Hn.out]; exact hlt
    obtain ⟨b, off, f, rfl, hb, hx⟩ := (hT.bel wayE hbel).out hkl
    obtain ⟨in0, c0, a1, k1, a2, k2, bs1, bs2, _, m1, m2, c1, t1, c2, t2⟩ := hx k hkl
    have HU : Hid (sumTo waySz l (k + 1) = sumTo waySz l k + waySz l[k]) := sumTo_succ _ hkl
    have HL : Hid (sumTo waySz l (k + 1) ≤ sumTo waySz l n) := sumTo_le _ (by omega) Hn.out.symm
    obtain ⟨r, HR⟩ : ∃ r, Hid (szR cur (waySz l[k]) = r) := ⟨_, (rfl : szR cur (waySz l[k]) = _)⟩
    have hr1 : r ≤ 1048576 := by rw [← HR.out]; exact (szR_bd p1).1
    clear hx hT
    by_cases p : 0 ≤ r
    ·have HN : Hid (r = left - n - sumTo waySz l (k + 1)) := by
      have h2 := HR.out; have h3 := HC.out; have h4 := HU.out
      have h5 : ((waySz l[k] : Nat) : Int) ≤ cur := by
       by_cases h6 : ((waySz l[k] : Nat) : Int) ≤ cur
       ·exact h6
       ·rw [szR_neg h6] at h2; omega
      rw [szR_pos h5] at h2
      show r = _
      omega
     go_wp2_with fail
     refine (szWay_any _ a1 _ k1 l[k].nodes bs1 a2 _ k2 l[k].tags bs2 cur _ t1 rfl t2 rfl m1 m2 p0 p1).mono ?_
     rintro e w1 ⟨rfl, hb1⟩
     rw [show szR cur (l[k].nodes.length + tagsSz l[k].tags) = r from HR.out]
     have hB1 := bel_step hbel hb1
     clear hb1 hbel
     go_wp2
     go_roundw
     case rel => exact ⟨k + 1, r, by omega, by go_num, rfl, p, hr1, HN, hB1⟩
     case measure => simp [intOf]; omega
    ·have HN : Hid (szR left (waysSz l) = -1) := by
      have h2 := HR.out; have h3 := HC.out; have h4 := HU.out; have h6 := HL.out
      rw [HS.out]
      refine szR_neg fun h7 => p ?_
      have h8 : ((waySz l[k] : Nat) : Int) ≤ cur := by omega
      rw [← h2, szR_pos h8]
      omega
     go_wp2_with fail
     refine (szWay_any _ a1 _ k1 l[k].nodes bs1 a2 _ k2 l[k].tags bs2 cur _ t1 rfl t2 rfl m1 m2 p0 p1).mono ?_
     rintro e w1 ⟨rfl, hb1⟩
     rw [show szR cur (l[k].nodes.length + tagsSz l[k].tags) = r from HR.out]
     have hB1 := bel_step hbel hb1
     clear hb1 hbel
     go_wp2
     go_ret
     exact ⟨ret_num HN.out.symm, hB1⟩
   ·have e : k = n := by omega
    subst e
    have HN : Hid (szR left (waysSz l) = cur) := by
     have h3 := HC.out
     have h5 : ((k + sumTo waySz l k : Nat) : Int) ≤ left := by omega
     rw [HS.out, szR_pos h5]
     show _ = _
     omega
    go_wp2
    go_ret
    exact ⟨ret_num HN.out.symm, hbel⟩
 ·have HN : Hid (szR left (waysSz l) = -1) := by rw [HS.out]; exact szR_neg (by omega)
  go_enter Tryz.func15, Tryz.ntmps15
  go_wp2
  go_ret
  exact ⟨ret_num HN.out.symm, Bel.refl _⟩

theorem infoWay : (Tryz.prog.info? 59).map (fun i => (i.zero, i.size, i.bytes)) = some (some (.agg #[.int .i64 0, .slice none 0 0, .slice none 0 0]), 3, 56) := by kernel_rfl
set_option maxHeartbeats 1000000 in
theorem toWayS_any (a : Option Addr) (n c : Nat) (l : List WayD) (bs : List Nat) (w : World) (hT : Ways w a l bs) (hn : l.length = n) (hm : n ≤ 1048576) (hs : ∀ i (h : i < l.length), l[i].nodes.length ≤ 1048576 ∧ l[i].tags.length ≤ 1048576) :
  Calls Tryz.prog 24 #[.slice a n c] w fun e w' => ∃ B cs, e = .returned (.slice (some ⟨B, 0, none⟩) n n) ∧ Ways w' (some ⟨B, 0, none⟩) l cs ∧ Fresh w w' cs ∧ Bel w w' := by
 have Hn : Hid (l.length = n) := hn
 clear hn
 have hmk : ∀ w : World, (Instr.makeSlice 36 (.int .i64 n) (.int .i64 n)).run Tryz.prog w = .ok (.slice (some ⟨w.heap.size, 0, none⟩) n n) (w.alloc (.cells (madeCells #[.int .i64 0, .slice none 0 0, .slice none 0 0] (n * 3)) 59)) := fun w => by
  obtain ⟨i0, hi, hz0, hz1, hz2⟩ := info_parts infoWay
  have := run_make (P := Tryz.prog) w 36 59 i0 (.agg #[.int .i64 0, .slice none 0 0, .slice none 0 0]) Tryz.underlying36 hi hz0 .i64 .i64 n n (by omega) (by omega) (by rw [hz2]; omega) (by omega)
  rw [hz1] at this
  exact this
 go_enter Tryz.func24, Tryz.ntmps24
 go_wp2
 go_loopw [4] (fun i wr => ∃ k : Nat, k ≤ n ∧ i = .int .i64 k ∧ (∃ f, Fill 3 WayE wr w.heap.size n k l f) ∧ Bel w wr) (fun i _ => n - (intOf i).toNat)
 case atStart => exact ⟨0, Nat.zero_le _, rfl, ⟨_, Fill.start _ _ _ _ _ _⟩, bel_alloc (Bel.refl _) _⟩
 case round =>
  obtain ⟨k, hk, rfl, ⟨g, hrow⟩, hbel⟩ := hrel
  by_cases hlt : k < n
  ·have hkl : k < l.length := by rw [Hn.out]; exact hlt
   obtain ⟨b, off, f, rfl, hb, hx⟩ := (hT.bel wayE hbel).out hkl
   obtain ⟨in0, c0, a1, k1, a2, k2, bs1, bs2, _, m1, m2, c1, t1, c2, t2⟩ := hx k hkl
   clear hx hT
   go_wp2_with fail
   refine (toWay_any _ a1 _ k1 l[k].nodes bs1 a2 _ k2 l[k].tags bs2 _ t1 rfl t2 rfl (hs k hkl).1 (hs k hkl).2).mono ?_
   rintro e w1 ⟨D1, d1, D2, d2, rfl, u1, u2, fr, hb1⟩
   have hr1 := hrow.bel wayE hb1
   have hB1 : Bel w w1 := bel_step hbel hb1
   obtain ⟨v0, d50⟩ := hr1.there (k * 3) (by omega)
   have f0 := hr1.free (k * 3)
   obtain ⟨v1, d51⟩ := hr1.there (k * 3 + 1) (by omega)
   have f1 := hr1.free (k * 3 + 1)
   obtain ⟨v2, d52⟩ := hr1.there (k * 3 + 2) (by omega)
   have f2 := hr1.free (k * 3 + 2)
   clear c0 c1 c2 hb hbel
   go_wp2
   go_roundw
   case rel =>
    have S := setRow_in w.heap.size [.int .i64 l[k].id, .slice (some ⟨D1, 0, none⟩) l[k].nodes.length l[k].nodes.length, .slice (some ⟨D2, 0, none⟩) l[k].tags.length l[k].tags.length] w1 (k * 3) (fun j hj => hr1.there _ (by simp at hj; omega))
    have HE1 : Ints (setRow w1 w.heap.size (k * 3) [.int .i64 l[k].id, .slice (some ⟨D1, 0, none⟩) l[k].nodes.length l[k].nodes.length, .slice (some ⟨D2, 0, none⟩) l[k].tags.length l[k].tags.length]) (some ⟨D1, 0, none⟩) l[k].nodes d1 := u1.alike intE (setRow_alike _ (fun x hx => (fr.new x (List.mem_append.2 (.inl hx))).2) (fun hx => by have h1 := (fr.new _ (List.mem_append.2 (.inl hx))).1; have h2 := hrow.lt; omega))
    have HE2 : Tags (setRow w1 w.heap.size (k * 3) [.int .i64 l[k].id, .slice (some ⟨D1, 0, none⟩) l[k].nodes.length l[k].nodes.length, .slice (some ⟨D2, 0, none⟩) l[k].tags.length l[k].tags.length]) (some ⟨D2, 0, none⟩) l[k].tags d2 := u2.alike tagE (setRow_alike _ (fun x hx => (fr.new x (List.mem_append.2 (.inr hx))).2) (fun hx => by have h1 := (fr.new _ (List.mem_append.2 (.inr hx))).1; have h2 := hrow.lt; omega))
    exact ⟨k + 1, by omega, by go_num, ⟨_, hrow.put wayE hb1 hlt Hn.out (fr) [.int .i64 l[k].id, .slice (some ⟨D1, 0, none⟩) l[k].nodes.length l[k].nodes.length, .slice (some ⟨D2, 0, none⟩) l[k].tags.length l[k].tags.length] rfl ⟨in0, S 0 (by simp), _, _, _, _, _, _, rfl, m1, m2, S 1 (by simp), HE1, S 2 (by simp), HE2⟩⟩, setRow_bel hB1 (Nat.le_refl _) [.int .i64 l[k].id, .slice (some ⟨D1, 0, none⟩) l[k].nodes.length l[k].nodes.length, .slice (some ⟨D2, 0, none⟩) l[k].tags.length l[k].tags.length] (k * 3)⟩
   case measure => simp [intOf]; omega
  ·have e : k = n := by omega
   subst e
   go_wp2
   go_ret
   exact ⟨_, _, rfl, hrow.sl Hn.out, hrow.fresh (Nat.le_refl _), hbel⟩

set_option maxHeartbeats 1000000 in
theorem eqWayS_same (a a' : Option Addr) (n c c' : Nat) (l : List WayD) (bs bs' : List Nat) (w : World) (hP : Ways w a l bs) (hP' : Ways w a' l bs') (hn : l.length = n) (hm : n ≤ 1048576) (hs : ∀ i (h : i < l.length), l[i].nodes.length ≤ 1048576 ∧ l[i].tags.length ≤ 1048576) :
  Calls Tryz.prog 32 #[.slice a n c, .slice a' n c'] w fun e w' => e = .returned (.bool true) ∧ Bel w w' := by
 have Hn : Hid (l.length = n) := hn
 clear hn
 go_enter Tryz.func32, Tryz.ntmps32
 go_wp2
 go_loopw [5] (fun i wr => ∃ k : Nat, k ≤ n ∧ i = .int .i64 k ∧ Bel w wr) (fun i _ => n - (intOf i).toNat)
 case atStart => exact ⟨0, Nat.zero_le _, rfl, Bel.refl _⟩
 case round =>
  obtain ⟨k, hk, rfl, hbel⟩ := hrel
  by_cases hlt : k < n
  ·have hkl : k < l.length := by rw [Hn.out]; exact hlt
   obtain ⟨b, off, f, rfl, h2, h3⟩ := (hP.bel wayE hbel).out hkl
   obtain ⟨b', off', f', rfl, h2', h3'⟩ := (hP'.bel wayE hbel).out hkl
   obtain ⟨in0, c0, a1, k1, a2, k2, bs1, bs2, _, m1, m2, c1, t1, c2, t2⟩ := h3 k hkl
   obtain ⟨in0', c0', a1', k1', a2', k2', bs1', bs2', _, m1', m2', c1', t1', c2', t2'⟩ := h3' k hkl
   have hR : ∀ w', Bel wr w' → w'.cell? ⟨b, off + k * 3, none⟩ = some (.int .i64 l[k].id) ∧ w'.cell? ⟨b, off + k * 3 + 1, none⟩ = some (.slice a1 l[k].nodes.length k1) ∧ w'.cell? ⟨b, off + k * 3 + 2, none⟩ = some (.slice a2 l[k].tags.length k2) ∧ w'.cell? ⟨b', off' + k * 3, none⟩ = some (.int .i64 l[k].id) ∧ w'.cell? ⟨b', off' + k * 3 + 1, none⟩ = some (.slice a1' l[k].nodes.length k1') ∧ w'.cell? ⟨b', off' + k * 3 + 2, none⟩ = some (.slice a2' l[k].tags.length k2') :=
    fun w' h => ⟨bel_cellM h h2 c0, bel_cellM h h2 c1, bel_cellM h h2 c2, bel_cellM h h2' c0', bel_cellM h h2' c1', bel_cellM h h2' c2'⟩
   have hlt' : (k : Int) < (n : Int) := by omega
   have g0 : Bel wr wr := Bel.refl _
   have T1 : ∀ w', Bel wr w' → Ints w' a1 l[k].nodes bs1 := fun w' h => t1.bel intE h
   have T2 : ∀ w', Bel wr w' → Tags w' a2 l[k].tags bs2 := fun w' h => t2.bel tagE h
   have T1' : ∀ w', Bel wr w' → Ints w' a1' l[k].nodes bs1' := fun w' h => t1'.bel intE h
   have T2' : ∀ w', Bel wr w' → Tags w' a2' l[k].tags bs2' := fun w' h => t2'.bel tagE h
   clear h3 h3' c0 c0' c1 c1' c2 c2' h2 h2' hP hP'
   go_wp2
   go_region_held3 (fun w' => Bel wr w') (repeat (first | exact g0 | refine Bel.drew ?_ | assumption | refine bel_then (by assumption) ?_))
    (first
     | (go_at_call 65; refine (eqWay_same _ a1 _ k1 l[k].nodes bs1 a2 _ k2 l[k].tags bs2 a1' k1' bs1' a2' k2' bs2' _ (T1 _ (by assumption)) rfl (T2 _ (by assumption)) rfl (T1' _ (by assumption)) (T2' _ (by assumption)) (hs k hkl).1 (hs k hkl).2).mono ?_; rintro e w' ⟨rfl, hbk⟩))
   have hH : Bel wr w' := by assumption
   go_wp2
   go_roundw
   case rel => exact ⟨k + 1, by omega, by go_num, bel_step hbel hH⟩
   case measure => simp [intOf]; omega
  ·have e : k = n := by omega
   subst e
   go_wp2
   go_ret
   exact ⟨rfl, hbel⟩

end Go.Proofs.YtldfcnlhjjiihaaGreat

namespace Go.Proofs.YtldfcnlhjjiihaaGreat
open Go.RowKit

theorem toPart_any (x0 : Int) (x1 : Bool) (w : World) :
  Calls Tryz.prog 119 #[.agg #[.int .i64 x0, .bool x1]] w fun e w' => e = .returned (.agg #[.int .i64 x0, .bool x1]) ∧ Bel w w' := by
 go_enter Tryz.func119, Tryz.ntmps119
 go_wp2
 exact bodyPost_ret (v := .agg #[.int .i64 x0, .bool x1]) (by simp [results, Tryz.results119, go_sem]) rfl ⟨rfl, bel_alloc (bel_alloc (bel_alloc (Bel.refl _) _) _) _⟩

theorem eqPart_same (x0 : Int) (x1 : Bool) (w : World) :
  Calls Tryz.prog 132 #[.agg #[.int .i64 x0, .bool x1], .agg #[.int .i64 x0, .bool x1]] w fun e w' => e = .returned (.bool true) ∧ Bel w w' := by
 go_enter Tryz.func132, Tryz.ntmps132
 go_wp2
 go_ret
 exact ⟨rfl, bel_alloc (bel_alloc (Bel.refl _) _) _⟩

theorem szPartS_any (a : Option Addr) (n c : Nat) (l : List PartD) (bs : List Nat) (left : Int) (w : World) (_hT : Parts w a l bs) (hn : l.length = n) (hm : n ≤ 9223372036854775807) (h0 : 0 ≤ left) (h1 : left ≤ 1048576) :
  Calls Tryz.prog 75 #[.slice a n c, .int .i64 left] w fun e w' => e = .returned (.int .i64 (szR left l.length)) ∧ Bel w w' := by
 rw [hn]
 by_cases hf : (n : Int) ≤ left
 ·rw [szR_pos hf]
  go_enter Tryz.func75, Tryz.ntmps75
  go_wp2
  go_ret
  exact ⟨rfl, Bel.refl _⟩
 ·rw [szR_neg hf]
  go_enter Tryz.func75, Tryz.ntmps75
  go_wp2
  go_ret
  exact ⟨rfl, Bel.refl _⟩

theorem infoPart : (Tryz.prog.info? 147).map (fun i => (i.zero, i.size, i.bytes)) = some (some (.agg #[.int .i64 0, .bool false]), 2, 16) := by kernel_rfl
set_option maxHeartbeats 1000000 in
theorem toPartS_any (a : Option Addr) (n c : Nat) (l : List PartD) (bs : List Nat) (w : World) (hT : Parts w a l bs) (hn : l.length = n) (hm : n ≤ 1048576) :
  Calls Tryz.prog 85 #[.slice a n c] w fun e w' => ∃ B cs, e = .returned (.slice (some ⟨B, 0, none⟩) n n) ∧ Parts w' (some ⟨B, 0, none⟩) l cs ∧ Fresh w w' cs ∧ Bel w w' := by
 have Hn : Hid (l.length = n) := hn
 clear hn
 have hmk : ∀ w : World, (Instr.makeSlice 108 (.int .i64 n) (.int .i64 n)).run Tryz.prog w = .ok (.slice (some ⟨w.heap.size, 0, none⟩) n n) (w.alloc (.cells (madeCells #[.int .i64 0, .bool false] (n * 2)) 147)) := fun w => by
  obtain ⟨i0, hi, hz0, hz1, hz2⟩ := info_parts infoPart
  have := run_make (P := Tryz.prog) w 108 147 i0 (.agg #[.int .i64 0, .bool false]) Tryz.underlying108 hi hz0 .i64 .i64 n n (by omega) (by omega) (by rw [hz2]; omega) (by omega)
  rw [hz1] at this
  exact this
 go_enter Tryz.func85, Tryz.ntmps85
 go_wp2
 go_loopw [4] (fun i wr => ∃ k : Nat, k ≤ n ∧ i = .int .i64 k ∧ (∃ f, Fill 2 PartE wr w.heap.size n k l f) ∧ Bel w wr) (fun i _ => n - (intOf i).toNat)
 case atStart => exact ⟨0, Nat.zero_le _, rfl, ⟨_, Fill.start _ _ _ _ _ _⟩, bel_alloc (Bel.refl _) _⟩
 case round =>
  obtain ⟨k, hk, rfl, ⟨g, hrow⟩, hbel⟩ := hrel
  by_cases hlt : k < n
  ·have hkl : k < l.length := by rw [Hn.out]; exact hlt
   obtain ⟨b, off, f, rfl, hb, hx⟩ := (hT.bel partE hbel).out hkl
   obtain ⟨_, in0, c0, c1⟩ := hx k hkl
   clear hx hT
   go_wp2_with fail
   refine (toPart_any l[k].way l[k].inner _).mono ?_
   rintro e w1 ⟨rfl, hb1⟩
   have hr1 := hrow.bel partE hb1
   have hB1 : Bel w w1 := bel_step hbel hb1
   obtain ⟨v0, d50⟩ := hr1.there (k * 2) (by omega)
   have f0 := hr1.free (k * 2)
   obtain ⟨v1, d51⟩ := hr1.there (k * 2 + 1) (by omega)
   have f1 := hr1.free (k * 2 + 1)
   clear c0 c1 hb hbel
   go_wp2
   go_roundw
   case rel =>
    have S := setRow_in w.heap.size [.int .i64 l[k].way, .bool l[k].inner] w1 (k * 2) (fun j hj => hr1.there _ (by simp at hj; omega))
    exact ⟨k + 1, by omega, by go_num, ⟨_, hrow.put partE hb1 hlt Hn.out (Fresh.nil _ _) [.int .i64 l[k].way, .bool l[k].inner] rfl ⟨rfl, in0, S 0 (by simp), S 1 (by simp)⟩⟩, setRow_bel hB1 (Nat.le_refl _) [.int .i64 l[k].way, .bool l[k].inner] (k * 2)⟩
   case measure => simp [intOf]; omega
  ·have e : k = n := by omega
   subst e
   go_wp2
   go_ret
   exact ⟨_, _, rfl, hrow.sl Hn.out, hrow.fresh (Nat.le_refl _), hbel⟩

set_option maxHeartbeats 1000000 in
theorem eqPartS_same (a a' : Option Addr) (n c c' : Nat) (l : List PartD) (bs bs' : List Nat) (w : World) (hP : Parts w a l bs) (hP' : Parts w a' l bs') (hn : l.length = n) (hm : n ≤ 1048576) :
  Calls Tryz.prog 112 #[.slice a n c, .slice a' n c'] w fun e w' => e = .returned (.bool true) ∧ Bel w w' := by
 have Hn : Hid (l.length = n) := hn
 clear hn
 go_enter Tryz.func112, Tryz.ntmps112
 go_wp2
 go_loopw [5] (fun i wr => ∃ k : Nat, k ≤ n ∧ i = .int .i64 k ∧ Bel w wr) (fun i _ => n - (intOf i).toNat)
 case atStart => exact ⟨0, Nat.zero_le _, rfl, Bel.refl _⟩
 case round =>
  obtain ⟨k, hk, rfl, hbel⟩ := hrel
  by_cases hlt : k < n
  ·have hkl : k < l.length := by rw [Hn.out]; exact hlt
   obtain ⟨b, off, f, rfl, h2, h3⟩ := (hP.bel partE hbel).out hkl
   obtain ⟨b', off', f', rfl, h2', h3'⟩ := (hP'.bel partE hbel).out hkl
   obtain ⟨_, in0, c0, c1⟩ := h3 k hkl
   obtain ⟨_, in0', c0', c1'⟩ := h3' k hkl
   have hR : ∀ w', Bel wr w' → w'.cell? ⟨b, off + k * 2, none⟩ = some (.int .i64 l[k].way) ∧ w'.cell? ⟨b, off + k * 2 + 1, none⟩ = some (.bool l[k].inner) ∧ w'.cell? ⟨b', off' + k * 2, none⟩ = some (.int .i64 l[k].way) ∧ w'.cell? ⟨b', off' + k * 2 + 1, none⟩ = some (.bool l[k].inner) :=
    fun w' h => ⟨bel_cellM h h2 c0, bel_cellM h h2 c1, bel_cellM h h2' c0', bel_cellM h h2' c1'⟩
   have hlt' : (k : Int) < (n : Int) := by omega
   have g0 : Bel wr wr := Bel.refl _
   clear h3 h3' c0 c0' c1 c1' h2 h2' hP hP'
   go_wp2
   go_region_held3 (fun w' => Bel wr w') (repeat (first | exact g0 | refine Bel.drew ?_ | assumption | refine bel_then (by assumption) ?_))
    (first
     | (go_at_call 132; refine (eqPart_same l[k].way l[k].inner _).mono ?_; rintro e w' ⟨rfl, hbk⟩))
   have hH : Bel wr w' := by assumption
   go_wp2
   go_roundw
   case rel => exact ⟨k + 1, by omega, by go_num, bel_step hbel hH⟩
   case measure => simp [intOf]; omega
  ·have e : k = n := by omega
   subst e
   go_wp2
   go_ret
   exact ⟨rfl, hbel⟩

end Go.Proofs.YtldfcnlhjjiihaaGreat

namespace Go.Proofs.YtldfcnlhjjiihaaGreat
open Go.RowKit

set_option maxHeartbeats 1000000 in
theorem szArea_any (x0 : Int) (a1 : Option Addr) (n1 c1 : Nat) (l1 : List PartD) (bs1 : List Nat) (a2 : Option Addr) (n2 c2 : Nat) (l2 : List TagD) (bs2 : List Nat) (left : Int) (w : World) (t1 : Parts w a1 l1 bs1) (e1 : l1.length = n1) (t2 : Tags w a2 l2 bs2) (e2 : l2.length = n2) (m1 : n1 ≤ 9223372036854775807) (m2 : n2 ≤ 9223372036854775807) (h0 : 0 ≤ left) (h1 : left ≤ 1048576) :
  Calls Tryz.prog 41 #[.agg #[.int .i64 x0, .slice a1 n1 c1, .slice a2 n2 c2], .int .i64 left] w fun e w' => e = .returned (.int .i64 (szR left (l1.length + tagsSz l2))) ∧ Bel w w' := by
 obtain ⟨r0, H0⟩ : ∃ r, Hid (szR left (l1.length) = r) := ⟨_, (rfl : szR left (l1.length) = _)⟩
 have b0 : r0 ≤ 1048576 := by rw [← H0.out]; exact (szR_bd h1).1
 obtain ⟨r1, H1⟩ : ∃ r, Hid (szR r0 (tagsSz l2) = r) := ⟨_, (rfl : szR r0 (tagsSz l2) = _)⟩
 have b1 : r1 ≤ 1048576 := by rw [← H1.out]; exact (szR_bd b0).1
 by_cases p0 : 0 ≤ r0
 ·have q0 : szR left (l1.length) = r0 := H0.out
  have Q0 : Hid (szR left (l1.length) = r0) := q0
  by_cases p1 : 0 ≤ r1
  ·have q1 : szR left (l1.length + tagsSz l2) = r1 := by rw [← szR_add (by rw [q0]; exact p0), q0]; exact H1.out
   have Q1 : Hid (szR left (l1.length + tagsSz l2) = r1) := q1
   clear q0 q1
   go_enter Tryz.func41, Tryz.ntmps41
   go_wp2_with (first | (go_at_call 75; refine (szPartS_any _ _ _ l1 bs1 _ _ (t1.bel partE (bel_alloc (Bel.refl _) _)) e1 m1 h0 h1).mono ?_; rintro e w0 ⟨rfl, hb0⟩; have B0 := bel_step (bel_alloc (Bel.refl w) _) hb0; obtain ⟨hc0, _, hz0⟩ := bcell hb0; rw [H0.out]) | (go_at_call 73; refine (szTagS_any _ _ _ l2 bs2 _ _ (t2.bel tagE (B0)) e2 m2 p0 b0).mono ?_; rintro e w1 ⟨rfl, hb1⟩; have B1 := bel_step B0 hb1; obtain ⟨hc1, _, hz1⟩ := bcell hb1; rw [H1.out]))
   go_ret
   exact ⟨ret_num Q1.out.symm, by assumption⟩
  ·have q1 : szR left (l1.length + tagsSz l2) = r1 := by rw [← szR_add (by rw [q0]; exact p0), q0]; exact H1.out
   have Q : Hid (szR left (l1.length + tagsSz l2) = -1) := (by have := szR_bd (s := l1.length + tagsSz l2) h1; rw [q1] at this ⊢; omega : szR left (l1.length + tagsSz l2) = -1)
   clear q0 q1
   go_enter Tryz.func41, Tryz.ntmps41
   go_wp2_with (first | (go_at_call 75; refine (szPartS_any _ _ _ l1 bs1 _ _ (t1.bel partE (bel_alloc (Bel.refl _) _)) e1 m1 h0 h1).mono ?_; rintro e w0 ⟨rfl, hb0⟩; have B0 := bel_step (bel_alloc (Bel.refl w) _) hb0; obtain ⟨hc0, _, hz0⟩ := bcell hb0; rw [H0.out]) | (go_at_call 73; refine (szTagS_any _ _ _ l2 bs2 _ _ (t2.bel tagE (B0)) e2 m2 p0 b0).mono ?_; rintro e w1 ⟨rfl, hb1⟩; have B1 := bel_step B0 hb1; obtain ⟨hc1, _, hz1⟩ := bcell hb1; rw [H1.out]))
   go_ret
   exact ⟨ret_num Q.out.symm, by assumption⟩
 ·have q0 : szR left (l1.length) = r0 := H0.out
  have Q : Hid (szR left (l1.length + tagsSz l2) = -1) := szR_out (by rw [q0]; omega)
  clear q0
  go_enter Tryz.func41, Tryz.ntmps41
  go_wp2_with (first | (go_at_call 75; refine (szPartS_any _ _ _ l1 bs1 _ _ (t1.bel partE (bel_alloc (Bel.refl _) _)) e1 m1 h0 h1).mono ?_; rintro e w0 ⟨rfl, hb0⟩; have B0 := bel_step (bel_alloc (Bel.refl w) _) hb0; obtain ⟨hc0, _, hz0⟩ := bcell hb0; rw [H0.out]))
  go_ret
  exact ⟨ret_num Q.out.symm, by assumption⟩

set_option maxHeartbeats 1000000 in
theorem toArea_any (x0 : Int) (a1 : Option Addr) (n1 c1 : Nat) (l1 : List PartD) (bs1 : List Nat) (a2 : Option Addr) (n2 c2 : Nat) (l2 : List TagD) (bs2 : List Nat) (w : World) (t1 : Parts w a1 l1 bs1) (e1 : l1.length = n1) (t2 : Tags w a2 l2 bs2) (e2 : l2.length = n2) (m1 : n1 ≤ 1048576) (m2 : n2 ≤ 1048576) :
  Calls Tryz.prog 53 #[.agg #[.int .i64 x0, .slice a1 n1 c1, .slice a2 n2 c2]] w fun e w' => ∃ B1 d1 B2 d2, e = .returned (.agg #[.int .i64 x0, .slice (some ⟨B1, 0, none⟩) n1 n1, .slice (some ⟨B2, 0, none⟩) n2 n2]) ∧ Parts w' (some ⟨B1, 0, none⟩) l1 d1 ∧ Tags w' (some ⟨B2, 0, none⟩) l2 d2 ∧ Fresh w w' (d1 ++ d2) ∧ Bel w w' := by
 have E1 : Hid (l1.length = n1) := e1
 have E2 : Hid (l2.length = n2) := e2
 clear e1 e2
 go_enter Tryz.func53, Tryz.ntmps53
 have S0 : Bel w (((w.alloc (.cells #[.int .i64 x0, .slice a1 n1 c1, .slice a2 n2 c2] 100)).alloc (.cells #[.int .i64 0, .slice none 0 0, .slice none 0 0] 110)).alloc (.cells #[.int .i64 x0, .slice none 0 0, .slice none 0 0] 110)) := bel_alloc (bel_alloc (bel_alloc (Bel.refl _) _) _) _
 have X0 : Blk (((w.alloc (.cells #[.int .i64 x0, .slice a1 n1 c1, .slice a2 n2 c2] 100)).alloc (.cells #[.int .i64 0, .slice none 0 0, .slice none 0 0] 110)).alloc (.cells #[.int .i64 x0, .slice none 0 0, .slice none 0 0] 110)) (w.heap.size) [.int .i64 x0, .slice a1 n1 c1, .slice a2 n2 c2] := (Blk.new w [.int .i64 x0, .slice a1 n1 c1, .slice a2 n2 c2] 100).bel (bel_alloc (bel_alloc (Bel.refl _) _) _)
 have R0 : Blk (((w.alloc (.cells #[.int .i64 x0, .slice a1 n1 c1, .slice a2 n2 c2] 100)).alloc (.cells #[.int .i64 0, .slice none 0 0, .slice none 0 0] 110)).alloc (.cells #[.int .i64 x0, .slice none 0 0, .slice none 0 0] 110)) (w.heap.size + 1) [.int .i64 0, .slice none 0 0, .slice none 0 0] := (Blk.new1 w _ [.int .i64 0, .slice none 0 0, .slice none 0 0] 110).bel (bel_alloc (Bel.refl _) _)
 have O0 : Blk (((w.alloc (.cells #[.int .i64 x0, .slice a1 n1 c1, .slice a2 n2 c2] 100)).alloc (.cells #[.int .i64 0, .slice none 0 0, .slice none 0 0] 110)).alloc (.cells #[.int .i64 x0, .slice none 0 0, .slice none 0 0] 110)) (w.heap.size + 1 + 1) [.int .i64 x0, .slice none 0 0, .slice none 0 0] := Blk.new2 w _ _ [.int .i64 x0, .slice none 0 0, .slice none 0 0] 110
 have y0 : w.heap.size + 3 ≤ (((w.alloc (.cells #[.int .i64 x0, .slice a1 n1 c1, .slice a2 n2 c2] 100)).alloc (.cells #[.int .i64 0, .slice none 0 0, .slice none 0 0] 110)).alloc (.cells #[.int .i64 x0, .slice none 0 0, .slice none 0 0] 110)).heap.size := by simp
 go_wp2_with fail
 refine (toPartS_any _ _ _ l1 bs1 _ (t1.bel partE S0) E1.out m1).mono ?_
 rintro e w1 ⟨B1, d1, rfl, u1, f1, hb1⟩
 have V1 := bel_step S0 hb1
 have X1 := X0.bel hb1
 have R1 := R0.bel hb1
 have O1 := O0.bel hb1
 have z1 : w.heap.size + 3 ≤ w1.heap.size := Nat.le_trans y0 hb1.out.size
 have x10 : w1.cell? ⟨w.heap.size, 0, none⟩ = some (.int .i64 x0) := X1.cell 0 (by simp)
 have r10 : w1.cell? ⟨w.heap.size + 1, 0, none⟩ = some (.int .i64 0) := R1.cell 0 (by simp)
 have o10 : w1.cell? ⟨w.heap.size + 1 + 1, 0, none⟩ = some (.int .i64 x0) := O1.cell 0 (by simp)
 have x11 : w1.cell? ⟨w.heap.size, 1, none⟩ = some (.slice a1 n1 c1) := X1.cell 1 (by simp)
 have r11 : w1.cell? ⟨w.heap.size + 1, 1, none⟩ = some (.slice none 0 0) := R1.cell 1 (by simp)
 have o11 : w1.cell? ⟨w.heap.size + 1 + 1, 1, none⟩ = some (.slice none 0 0) := O1.cell 1 (by simp)
 have x12 : w1.cell? ⟨w.heap.size, 2, none⟩ = some (.slice a2 n2 c2) := X1.cell 2 (by simp)
 have r12 : w1.cell? ⟨w.heap.size + 1, 2, none⟩ = some (.slice none 0 0) := R1.cell 2 (by simp)
 have o12 : w1.cell? ⟨w.heap.size + 1 + 1, 2, none⟩ = some (.slice none 0 0) := O1.cell 2 (by simp)
 have g1 := X1.free
 have gr1 := R1.free
 have go1 := O1.free
 have S1 : Bel w ((w1).setCell ⟨w.heap.size + 1 + 1, 1, none⟩ (.slice (some ⟨B1, 0, none⟩) n1 n1)) := bel_set (V1) (by show w.heap.size ≤ w.heap.size + 1 + 1; omega) _
 have O1 : Blk ((w1).setCell ⟨w.heap.size + 1 + 1, 1, none⟩ (.slice (some ⟨B1, 0, none⟩) n1 n1)) (w.heap.size + 1 + 1) [.int .i64 x0, .slice (some ⟨B1, 0, none⟩) n1 n1, .slice none 0 0] := (O1).set 1 (.slice (some ⟨B1, 0, none⟩) n1 n1) (by simp)
 have X1 : Blk ((w1).setCell ⟨w.heap.size + 1 + 1, 1, none⟩ (.slice (some ⟨B1, 0, none⟩) n1 n1)) (w.heap.size) [.int .i64 x0, .slice a1 n1 c1, .slice a2 n2 c2] := (X1).far (by omega)
 have R1 : Blk ((w1).setCell ⟨w.heap.size + 1 + 1, 1, none⟩ (.slice (some ⟨B1, 0, none⟩) n1 n1)) (w.heap.size + 1) [.int .i64 0, .slice none 0 0, .slice none 0 0] := (R1).far (by omega)
 have y1 : w.heap.size + 3 ≤ ((w1).setCell ⟨w.heap.size + 1 + 1, 1, none⟩ (.slice (some ⟨B1, 0, none⟩) n1 n1)).heap.size := by simpa [World.setCell] using z1
 have b1 : Abv (w.heap.size + 3) w1 ((w1).setCell ⟨w.heap.size + 1 + 1, 1, none⟩ (.slice (some ⟨B1, 0, none⟩) n1 n1)) := (Abv.refl (w.heap.size + 3) w1).set (by omega) _
 have k1 : w1.heap.size ≤ ((w1).setCell ⟨w.heap.size + 1 + 1, 1, none⟩ (.slice (some ⟨B1, 0, none⟩) n1 n1)).heap.size := b1.1
 go_wp2_with fail
 refine (toTagS_any _ _ _ l2 bs2 _ (t2.bel tagE S1) E2.out m2).mono ?_
 rintro e w2 ⟨B2, d2, rfl, u2, f2, hb2⟩
 have V2 := bel_step S1 hb2
 have X2 := X1.bel hb2
 have R2 := R1.bel hb2
 have O2 := O1.bel hb2
 have z2 : w.heap.size + 3 ≤ w2.heap.size := Nat.le_trans y1 hb2.out.size
 have x20 : w2.cell? ⟨w.heap.size, 0, none⟩ = some (.int .i64 x0) := X2.cell 0 (by simp)
 have r20 : w2.cell? ⟨w.heap.size + 1, 0, none⟩ = some (.int .i64 0) := R2.cell 0 (by simp)
 have o20 : w2.cell? ⟨w.heap.size + 1 + 1, 0, none⟩ = some (.int .i64 x0) := O2.cell 0 (by simp)
 have x21 : w2.cell? ⟨w.heap.size, 1, none⟩ = some (.slice a1 n1 c1) := X2.cell 1 (by simp)
 have r21 : w2.cell? ⟨w.heap.size + 1, 1, none⟩ = some (.slice none 0 0) := R2.cell 1 (by simp)
 have o21 : w2.cell? ⟨w.heap.size + 1 + 1, 1, none⟩ = some (.slice (some ⟨B1, 0, none⟩) n1 n1) := O2.cell 1 (by simp)
 have x22 : w2.cell? ⟨w.heap.size, 2, none⟩ = some (.slice a2 n2 c2) := X2.cell 2 (by simp)
 have r22 : w2.cell? ⟨w.heap.size + 1, 2, none⟩ = some (.slice none 0 0) := R2.cell 2 (by simp)
 have o22 : w2.cell? ⟨w.heap.size + 1 + 1, 2, none⟩ = some (.slice none 0 0) := O2.cell 2 (by simp)
 have g2 := X2.free
 have gr2 := R2.free
 have go2 := O2.free
 have c1 : Abv (w.heap.size + 3) w1 w2 := b1.bel hb2
 have q1 := f1.abv y0 c1
 have F1 : Fresh w w2 d1 := q1.old (Nat.le_trans (Nat.le_add_right _ 3) y0)
 have c2 : Abv (w.heap.size + 3) w2 w2 := Abv.refl _ _
 have q2 := f2.abv y1 c2
 have F2 : Fresh w w2 d2 := q2.old (Nat.le_trans (Nat.le_add_right _ 3) y1)
 have FF := F1.app F2 fun x hx hx' => by have h1 := (f1.new x hx).2; have h2 := (f2.new x hx').1; omega
 have HN : ∀ x ∈ d1 ++ d2, w.heap.size + 3 ≤ x := fun x hx => (List.mem_append.1 hx).elim (fun h => Nat.le_trans y0 (f1.new x h).1) (fun h => Nat.le_trans y1 (f2.new x h).1)
 have hA : ∀ W, Abv (w.heap.size + 3) w2 W → Bel w W → Parts W (some ⟨B1, 0, none⟩) l1 d1 ∧ Tags W (some ⟨B2, 0, none⟩) l2 d2 ∧ Fresh w W (d1 ++ d2) ∧ Bel w W := fun W h hb => ⟨u1.abv partE f1 y0 (c1.trans h), u2.abv tagE f2 y1 (c2.trans h), FF.abv0 (fun x hx => HN x hx) h, hb⟩
 go_wp2
 refine bodyPost_ret (v := .agg #[.int .i64 x0, .slice (some ⟨B1, 0, none⟩) n1 n1, .slice (some ⟨B2, 0, none⟩) n2 n2]) (by simp [results, Tryz.results53, go_sem, r20, r21, r22]) rfl ?_
 clear x20 r20 o20 x21 r21 o21 x22 r22 o22
 refine ⟨B1, d1, B2, d2, rfl, hA _ ?_ ?_⟩
 ·with_reducible repeat (first | exact Abv.refl _ _ | refine Abv.set ?_ (by omega) _)
 ·(with_reducible repeat (first | exact V2 | refine bel_set ?_ ?_ _)) <;> simp <;> omega

set_option maxHeartbeats 1000000 in
theorem eqArea_same (x0 : Int) (a1 : Option Addr) (n1 c1 : Nat) (l1 : List PartD) (bs1 : List Nat) (a2 : Option Addr) (n2 c2 : Nat) (l2 : List TagD) (bs2 : List Nat) (a1' : Option Addr) (c1' : Nat) (bs1' : List Nat) (a2' : Option Addr) (c2' : Nat) (bs2' : List Nat) (w : World) (t1 : Parts w a1 l1 bs1) (e1 : l1.length = n1) (t2 : Tags w a2 l2 bs2) (e2 : l2.length = n2) (t1' : Parts w a1' l1 bs1') (t2' : Tags w a2' l2 bs2') (m1 : n1 ≤ 1048576) (m2 : n2 ≤ 1048576) :
  Calls Tryz.prog 66 #[.agg #[.int .i64 x0, .slice a1 n1 c1, .slice a2 n2 c2], .agg #[.int .i64 x0, .slice a1' n1 c1', .slice a2' n2 c2']] w fun e w' => e = .returned (.bool true) ∧ Bel w w' := by
 have S0 : Bel w ((w.alloc (.cells #[.int .i64 x0, .slice a1 n1 c1, .slice a2 n2 c2] 110)).alloc (.cells #[.int .i64 x0, .slice a1' n1 c1', .slice a2' n2 c2'] 110)) := bel_alloc (bel_alloc (Bel.refl _) _) _
 have X0 : Blk ((w.alloc (.cells #[.int .i64 x0, .slice a1 n1 c1, .slice a2 n2 c2] 110)).alloc (.cells #[.int .i64 x0, .slice a1' n1 c1', .slice a2' n2 c2'] 110)) w.heap.size [.int .i64 x0, .slice a1 n1 c1, .slice a2 n2 c2] := (Blk.new w [.int .i64 x0, .slice a1 n1 c1, .slice a2 n2 c2] 110).bel (bel_alloc (Bel.refl _) _)
 have Y0 : Blk ((w.alloc (.cells #[.int .i64 x0, .slice a1 n1 c1, .slice a2 n2 c2] 110)).alloc (.cells #[.int .i64 x0, .slice a1' n1 c1', .slice a2' n2 c2'] 110)) (w.heap.size + 1) [.int .i64 x0, .slice a1' n1 c1', .slice a2' n2 c2'] := Blk.new1 w _ [.int .i64 x0, .slice a1' n1 c1', .slice a2' n2 c2'] 110
 go_enter Tryz.func66, Tryz.ntmps66
 go_wp2_with fail
 refine (eqPartS_same _ _ _ _ _ l1 bs1 bs1' _ (t1.bel partE S0) (t1'.bel partE S0) e1 m1).mono ?_
 rintro e w1 ⟨rfl, hb1⟩
 have S1 := bel_step S0 hb1
 have X1 := X0.bel hb1
 have Y1 := Y0.bel hb1
 have x10 : w1.cell? ⟨w.heap.size, 0, none⟩ = some (.int .i64 x0) := X1.cell 0 (by simp)
 have y10 : w1.cell? ⟨w.heap.size + 1, 0, none⟩ = some (.int .i64 x0) := Y1.cell 0 (by simp)
 have x11 : w1.cell? ⟨w.heap.size, 1, none⟩ = some (.slice a1 n1 c1) := X1.cell 1 (by simp)
 have y11 : w1.cell? ⟨w.heap.size + 1, 1, none⟩ = some (.slice a1' n1 c1') := Y1.cell 1 (by simp)
 have x12 : w1.cell? ⟨w.heap.size, 2, none⟩ = some (.slice a2 n2 c2) := X1.cell 2 (by simp)
 have y12 : w1.cell? ⟨w.heap.size + 1, 2, none⟩ = some (.slice a2' n2 c2') := Y1.cell 2 (by simp)
 go_wp2_with fail
 refine (eqTagS_same _ _ _ _ _ l2 bs2 bs2' _ (t2.bel tagE S1) (t2'.bel tagE S1) e2 m2).mono ?_
 rintro e w2 ⟨rfl, hb2⟩
 have S2 := bel_step S1 hb2
 go_wp2
 go_ret
 exact ⟨rfl, S2⟩

set_option maxHeartbeats 1000000 in
theorem szAreaS_any (a : Option Addr) (n c : Nat) (l : List AreaD) (bs : List Nat) (left : Int) (w : World) (hT : Areas w a l bs) (hn : l.length = n) (hm : n ≤ 9223372036854775807) (h0 : 0 ≤ left) (h1 : left ≤ 1048576) :
  Calls Tryz.prog 16 #[.slice a n c, .int .i64 left] w fun e w' => e = .returned (.int .i64 (szR left (areasSz l))) ∧ Bel w w' := by
 have Hn : Hid (l.length = n) := hn
 have HS : Hid (areasSz l = n + sumTo areaSz l n) := (by unfold areasSz; rw [hn] : areasSz l = n + sumTo areaSz l n)
 clear hn
 by_cases hf : (n : Int) ≤ left
 ·go_enter Tryz.func16, Tryz.ntmps16
  go_wp2
  go_loopw [1, 5] (fun t i wr => ∃ (k : Nat) (cur : Int), k ≤ n ∧ i = .int .i64 k ∧ t = .int .i64 cur ∧ 0 ≤ cur ∧ cur ≤ 1048576 ∧ Hid (cur = left - n - sumTo areaSz l k) ∧ Bel w wr) (fun _ i _ => n - (intOf i).toNat)
  case atStart => exact ⟨0, left - n, Nat.zero_le _, rfl, rfl, by omega, by omega, (by rw [sumTo_zero]; omega : left - (n : Int) = left - n - ((sumTo areaSz l 0 : Nat) : Int)), Bel.refl _⟩
  case round =>
   obtain ⟨k, cur, hk, rfl, rfl, p0, p1, HC, hbel⟩ := hrel
   by_cases hlt : k < n
   ·have hkl : k < l.length := by rw [Hn.out]; exact hlt
    obtain ⟨b, off, f, rfl, hb, hx⟩ := (hT.bel areaE hbel).out hkl
    obtain ⟨in0, c0, a1, k1, a2, k2, bs1, bs2, _, m1, m2, c1, t1, c2, t2⟩ := hx k hkl
    have HU : Hid (sumTo areaSz l (k + 1) = sumTo areaSz l k + areaSz l[k]) := sumTo_succ _ hkl
    have HL : Hid (sumTo areaSz l (k + 1) ≤ sumTo areaSz l n) := sumTo_le _ (by omega) Hn.out.symm
    obtain ⟨r, HR⟩ : ∃ r, Hid (szR cur (areaSz l[k]) = r) := ⟨_, (rfl : szR cur (areaSz l[k]) = _)⟩
    have hr1 : r ≤ 1048576 := by rw [← HR.out]; exact (szR_bd p1).1
    clear hx hT
    by_cases p : 0 ≤ r
    ·have HN : Hid (r = left - n - sumTo areaSz l (k + 1)) := by
      have h2 := HR.out; have h3 := HC.out; have h4 := HU.out
      have h5 : ((areaSz l[k] : Nat) : Int) ≤ cur := by
       by_cases h6 : ((areaSz l[k] : Nat) : Int) ≤ cur
       ·exact h6
       ·rw [szR_neg h6] at h2; omega
      rw [szR_pos h5] at h2
      show r = _
      omega
     go_wp2_with fail
     refine (szArea_any _ a1 _ k1 l[k].parts bs1 a2 _ k2 l[k].tags bs2 cur _ t1 rfl t2 rfl m1 m2 p0 p1).mono ?_
     rintro e w1 ⟨rfl, hb1⟩
     rw [show szR cur (l[k].parts.length + tagsSz l[k].tags) = r from HR.out]
     have hB1 := bel_step hbel hb1
     clear hb1 hbel
     go_wp2
     go_roundw
     case rel => exact ⟨k + 1, r, by omega, by go_num, rfl, p, hr1, HN, hB1⟩
     case measure => simp [intOf]; omega
    ·have HN : Hid (szR left (areasSz l) = -1) := by
      have h2 := HR.out; have h3 := HC.out; have h4 := HU.out; have h6 := HL.out
      rw [HS.out]
      refine szR_neg fun h7 => p ?_
      have h8 : ((areaSz l[k] : Nat) : Int) ≤ cur := by omega
      rw [← h2, szR_pos h8]
      omega
     go_wp2_with fail
     refine (szArea_any _ a1 _ k1 l[k].parts bs1 a2 _ k2 l[k].tags bs2 cur _ t1 rfl t2 rfl m1 m2 p0 p1).mono ?_
     rintro e w1 ⟨rfl, hb1⟩
     rw [show szR cur (l[k].parts.length + tagsSz l[k].tags) = r from HR.out]
     have hB1 := bel_step hbel hb1
     clear hb1 hbel
     go_wp2
     go_ret
     exact ⟨ret_num HN.out.symm, hB1⟩
   ·have e : k = n := by omega
    subst e
    have HN : Hid (szR left (areasSz l) = cur) := by
     have h3 := HC.out
     have h5 : ((k + sumTo areaSz l k : Nat) : Int) ≤ left := by omega
     rw [HS.out, szR_pos h5]
     show _ = _
     omega
    go_wp2
    go_ret
    exact ⟨ret_num HN.out.symm, hbel⟩
 ·have HN : Hid (szR left (areasSz l) = -1) := by rw [HS.out]; exact szR_neg (by omega)
  go_enter Tryz.func16, Tryz.ntmps16
  go_wp2
  go_ret
  exact ⟨ret_num HN.out.symm, Bel.refl _⟩

theorem infoArea : (Tryz.prog.info? 110).map (fun i => (i.zero, i.size, i.bytes)) = some (some (.agg #[.int .i64 0, .slice none 0 0, .slice none 0 0]), 3, 56) := by kernel_rfl
set_option maxHeartbeats 1000000 in
theorem toAreaS_any (a : Option Addr) (n c : Nat) (l : List AreaD) (bs : List Nat) (w : World) (hT : Areas w a l bs) (hn : l.length = n) (hm : n ≤ 1048576) (hs : ∀ i (h : i < l.length), l[i].parts.length ≤ 1048576 ∧ l[i].tags.length ≤ 1048576) :
  Calls Tryz.prog 25 #[.slice a n c] w fun e w' => ∃ B cs, e = .returned (.slice (some ⟨B, 0, none⟩) n n) ∧ Areas w' (some ⟨B, 0, none⟩) l cs ∧ Fresh w w' cs ∧ Bel w w' := by
 have Hn : Hid (l.length = n) := hn
 clear hn
 have hmk : ∀ w : World, (Instr.makeSlice 37 (.int .i64 n) (.int .i64 n)).run Tryz.prog w = .ok (.slice (some ⟨w.heap.size, 0, none⟩) n n) (w.alloc (.cells (madeCells #[.int .i64 0, .slice none 0 0, .slice none 0 0] (n * 3)) 110)) := fun w => by
  obtain ⟨i0, hi, hz0, hz1, hz2⟩ := info_parts infoArea
  have := run_make (P := Tryz.prog) w 37 110 i0 (.agg #[.int .i64 0, .slice none 0 0, .slice none 0 0]) Tryz.underlying37 hi hz0 .i64 .i64 n n (by omega) (by omega) (by rw [hz2]; omega) (by omega)
  rw [hz1] at this
  exact this
 go_enter Tryz.func25, Tryz.ntmps25
 go_wp2
 go_loopw [4] (fun i wr => ∃ k : Nat, k ≤ n ∧ i = .int .i64 k ∧ (∃ f, Fill 3 AreaE wr w.heap.size n k l f) ∧ Bel w wr) (fun i _ => n - (intOf i).toNat)
 case atStart => exact ⟨0, Nat.zero_le _, rfl, ⟨_, Fill.start _ _ _ _ _ _⟩, bel_alloc (Bel.refl _) _⟩
 case round =>
  obtain ⟨k, hk, rfl, ⟨g, hrow⟩, hbel⟩ := hrel
  by_cases hlt : k < n
  ·have hkl : k < l.length := by rw [Hn.out]; exact hlt
   obtain ⟨b, off, f, rfl, hb, hx⟩ := (hT.bel areaE hbel).out hkl
   obtain ⟨in0, c0, a1, k1, a2, k2, bs1, bs2, _, m1, m2, c1, t1, c2, t2⟩ := hx k hkl
   clear hx hT
   go_wp2_with fail
   refine (toArea_any _ a1 _ k1 l[k].parts bs1 a2 _ k2 l[k].tags bs2 _ t1 rfl t2 rfl (hs k hkl).1 (hs k hkl).2).mono ?_
   rintro e w1 ⟨D1, d1, D2, d2, rfl, u1, u2, fr, hb1⟩
   have hr1 := hrow.bel areaE hb1
   have hB1 : Bel w w1 := bel_step hbel hb1
   obtain ⟨v0, d50⟩ := hr1.there (k * 3) (by omega)
   have f0 := hr1.free (k * 3)
   obtain ⟨v1, d51⟩ := hr1.there (k * 3 + 1) (by omega)
   have f1 := hr1.free (k * 3 + 1)
   obtain ⟨v2, d52⟩ := hr1.there (k * 3 + 2) (by omega)
   have f2 := hr1.free (k * 3 + 2)
   clear c0 c1 c2 hb hbel
   go_wp2
   go_roundw
   case rel =>
    have S := setRow_in w.heap.size [.int .i64 l[k].id, .slice (some ⟨D1, 0, none⟩) l[k].parts.length l[k].parts.length, .slice (some ⟨D2, 0, none⟩) l[k].tags.length l[k].tags.length] w1 (k * 3) (fun j hj => hr1.there _ (by simp at hj; omega))
    have HE1 : Parts (setRow w1 w.heap.size (k * 3) [.int .i64 l[k].id, .slice (some ⟨D1, 0, none⟩) l[k].parts.length l[k].parts.length, .slice (some ⟨D2, 0, none⟩) l[k].tags.length l[k].tags.length]) (some ⟨D1, 0, none⟩) l[k].parts d1 := u1.alike partE (setRow_alike _ (fun x hx => (fr.new x (List.mem_append.2 (.inl hx))).2) (fun hx => by have h1 := (fr.new _ (List.mem_append.2 (.inl hx))).1; have h2 := hrow.lt; omega))
    have HE2 : Tags (setRow w1 w.heap.size (k * 3) [.int .i64 l[k].id, .slice (some ⟨D1, 0, none⟩) l[k].parts.length l[k].parts.length, .slice (some ⟨D2, 0, none⟩) l[k].tags.length l[k].tags.length]) (some ⟨D2, 0, none⟩) l[k].tags d2 := u2.alike tagE (setRow_alike _ (fun x hx => (fr.new x (List.mem_append.2 (.inr hx))).2) (fun hx => by have h1 := (fr.new _ (List.mem_append.2 (.inr hx))).1; have h2 := hrow.lt; omega))
    exact ⟨k + 1, by omega, by go_num, ⟨_, hrow.put areaE hb1 hlt Hn.out (fr) [.int .i64 l[k].id, .slice (some ⟨D1, 0, none⟩) l[k].parts.length l[k].parts.length, .slice (some ⟨D2, 0, none⟩) l[k].tags.length l[k].tags.length] rfl ⟨in0, S 0 (by simp), _, _, _, _, _, _, rfl, m1, m2, S 1 (by simp), HE1, S 2 (by simp), HE2⟩⟩, setRow_bel hB1 (Nat.le_refl _) [.int .i64 l[k].id, .slice (some ⟨D1, 0, none⟩) l[k].parts.length l[k].parts.length, .slice (some ⟨D2, 0, none⟩) l[k].tags.length l[k].tags.length] (k * 3)⟩
   case measure => simp [intOf]; omega
  ·have e : k = n := by omega
   subst e
   go_wp2
   go_ret
   exact ⟨_, _, rfl, hrow.sl Hn.out, hrow.fresh (Nat.le_refl _), hbel⟩

set_option maxHeartbeats 1000000 in
theorem eqAreaS_same (a a' : Option Addr) (n c c' : Nat) (l : List AreaD) (bs bs' : List Nat) (w : World) (hP : Areas w a l bs) (hP' : Areas w a' l bs') (hn : l.length = n) (hm : n ≤ 1048576) (hs : ∀ i (h : i < l.length), l[i].parts.length ≤ 1048576 ∧ l[i].tags.length ≤ 1048576) :
  Calls Tryz.prog 33 #[.slice a n c, .slice a' n c'] w fun e w' => e = .returned (.bool true) ∧ Bel w w' := by
 have Hn : Hid (l.length = n) := hn
 clear hn
 go_enter Tryz.func33, Tryz.ntmps33
 go_wp2
 go_loopw [5] (fun i wr => ∃ k : Nat, k ≤ n ∧ i = .int .i64 k ∧ Bel w wr) (fun i _ => n - (intOf i).toNat)
 case atStart => exact ⟨0, Nat.zero_le _, rfl, Bel.refl _⟩
 case round =>
  obtain ⟨k, hk, rfl, hbel⟩ := hrel
  by_cases hlt : k < n
  ·have hkl : k < l.length := by rw [Hn.out]; exact hlt
   obtain ⟨b, off, f, rfl, h2, h3⟩ := (hP.bel areaE hbel).out hkl
   obtain ⟨b', off', f', rfl, h2', h3'⟩ := (hP'.bel areaE hbel).out hkl
   obtain ⟨in0, c0, a1, k1, a2, k2, bs1, bs2, _, m1, m2, c1, t1, c2, t2⟩ := h3 k hkl
   obtain ⟨in0', c0', a1', k1', a2', k2', bs1', bs2', _, m1', m2', c1', t1', c2', t2'⟩ := h3' k hkl
   have hR : ∀ w', Bel wr w' → w'.cell? ⟨b, off + k * 3, none⟩ = some (.int .i64 l[k].id) ∧ w'.cell? ⟨b, off + k * 3 + 1, none⟩ = some (.slice a1 l[k].parts.length k1) ∧ w'.cell? ⟨b, off + k * 3 + 2, none⟩ = some (.slice a2 l[k].tags.length k2) ∧ w'.cell? ⟨b', off' + k * 3, none⟩ = some (.int .i64 l[k].id) ∧ w'.cell? ⟨b', off' + k * 3 + 1, none⟩ = some (.slice a1' l[k].parts.length k1') ∧ w'.cell? ⟨b', off' + k * 3 + 2, none⟩ = some (.slice a2' l[k].tags.length k2') :=
    fun w' h => ⟨bel_cellM h h2 c0, bel_cellM h h2 c1, bel_cellM h h2 c2, bel_cellM h h2' c0', bel_cellM h h2' c1', bel_cellM h h2' c2'⟩
   have hlt' : (k : Int) < (n : Int) := by omega
   have g0 : Bel wr wr := Bel.refl _
   have T1 : ∀ w', Bel wr w' → Parts w' a1 l[k].parts bs1 := fun w' h => t1.bel partE h
   have T2 : ∀ w', Bel wr w' → Tags w' a2 l[k].tags bs2 := fun w' h => t2.bel tagE h
   have T1' : ∀ w', Bel wr w' → Parts w' a1' l[k].parts bs1' := fun w' h => t1'.bel partE h
   have T2' : ∀ w', Bel wr w' → Tags w' a2' l[k].tags bs2' := fun w' h => t2'.bel tagE h
   clear h3 h3' c0 c0' c1 c1' c2 c2' h2 h2' hP hP'
   go_wp2
   go_region_held3 (fun w' => Bel wr w') (repeat (first | exact g0 | refine Bel.drew ?_ | assumption | refine bel_then (by assumption) ?_))
    (first
     | (go_at_call 66; refine (eqArea_same _ a1 _ k1 l[k].parts bs1 a2 _ k2 l[k].tags bs2 a1' k1' bs1' a2' k2' bs2' _ (T1 _ (by assumption)) rfl (T2 _ (by assumption)) rfl (T1' _ (by assumption)) (T2' _ (by assumption)) (hs k hkl).1 (hs k hkl).2).mono ?_; rintro e w' ⟨rfl, hbk⟩))
   have hH : Bel wr w' := by assumption
   go_wp2
   go_roundw
   case rel => exact ⟨k + 1, by omega, by go_num, bel_step hbel hH⟩
   case measure => simp [intOf]; omega
  ·have e : k = n := by omega
   subst e
   go_wp2
   go_ret
   exact ⟨rfl, hbel⟩

end Go.Proofs.YtldfcnlhjjiihaaGreat

namespace Go.Proofs.YtldfcnlhjjiihaaGreat
open Go.RowKit

set_option maxHeartbeats 1000000 in
theorem szMap_any (a0 : Option Addr) (n0 c0 : Nat) (l0 : List NodeD) (bs0 : List Nat) (a1 : Option Addr) (n1 c1 : Nat) (l1 : List WayD) (bs1 : List Nat) (a2 : Option Addr) (n2 c2 : Nat) (l2 : List AreaD) (bs2 : List Nat) (left : Int) (w : World) (t0 : Nodes w a0 l0 bs0) (e0 : l0.length = n0) (t1 : Ways w a1 l1 bs1) (e1 : l1.length = n1) (t2 : Areas w a2 l2 bs2) (e2 : l2.length = n2) (m0 : n0 ≤ 9223372036854775807) (m1 : n1 ≤ 9223372036854775807) (m2 : n2 ≤ 9223372036854775807) (h0 : 0 ≤ left) (h1 : left ≤ 1048576) :
  Calls Tryz.prog 4 #[.agg #[.slice a0 n0 c0, .slice a1 n1 c1, .slice a2 n2 c2], .int .i64 left] w fun e w' => e = .returned (.int .i64 (szR left (nodesSz l0 + waysSz l1 + areasSz l2))) ∧ Bel w w' := by
 obtain ⟨r0, H0⟩ : ∃ r, Hid (szR left (nodesSz l0) = r) := ⟨_, (rfl : szR left (nodesSz l0) = _)⟩
 have b0 : r0 ≤ 1048576 := by rw [← H0.out]; exact (szR_bd h1).1
 obtain ⟨r1, H1⟩ : ∃ r, Hid (szR r0 (waysSz l1) = r) := ⟨_, (rfl : szR r0 (waysSz l1) = _)⟩
 have b1 : r1 ≤ 1048576 := by rw [← H1.out]; exact (szR_bd b0).1
 obtain ⟨r2, H2⟩ : ∃ r, Hid (szR r1 (areasSz l2) = r) := ⟨_, (rfl : szR r1 (areasSz l2) = _)⟩
 have b2 : r2 ≤ 1048576 := by rw [← H2.out]; exact (szR_bd b1).1
 by_cases p0 : 0 ≤ r0
 ·have q0 : szR left (nodesSz l0) = r0 := H0.out
  have Q0 : Hid (szR left (nodesSz l0) = r0) := q0
  by_cases p1 : 0 ≤ r1
  ·have q1 : szR left (nodesSz l0 + waysSz l1) = r1 := by rw [← szR_add (by rw [q0]; exact p0), q0]; exact H1.out
   have Q1 : Hid (szR left (nodesSz l0 + waysSz l1) = r1) := q1
   by_cases p2 : 0 ≤ r2
   ·have q2 : szR left (nodesSz l0 + waysSz l1 + areasSz l2) = r2 := by rw [← szR_add (by rw [q1]; exact p1), q1]; exact H2.out
    have Q2 : Hid (szR left (nodesSz l0 + waysSz l1 + areasSz l2) = r2) := q2
    clear q0 q1 q2
    go_enter Tryz.func4, Tryz.ntmps4
    go_wp2_with (first | (go_at_call 14; refine (szNodeS_any _ _ _ l0 bs0 _ _ (t0.bel nodeE (bel_alloc (Bel.refl _) _)) e0 m0 h0 h1).mono ?_; rintro e w0 ⟨rfl, hb0⟩; have B0 := bel_step (bel_alloc (Bel.refl w) _) hb0; obtain ⟨hc0, _, hz0⟩ := bcell hb0; rw [H0.out]) | (go_at_call 15; refine (szWayS_any _ _ _ l1 bs1 _ _ (t1.bel wayE (B0)) e1 m1 p0 b0).mono ?_; rintro e w1 ⟨rfl, hb1⟩; have B1 := bel_step B0 hb1; obtain ⟨hc1, _, hz1⟩ := bcell hb1; rw [H1.out]) | (go_at_call 16; refine (szAreaS_any _ _ _ l2 bs2 _ _ (t2.bel areaE (B1)) e2 m2 p1 b1).mono ?_; rintro e w2 ⟨rfl, hb2⟩; have B2 := bel_step B1 hb2; obtain ⟨hc2, _, hz2⟩ := bcell hb2; rw [H2.out]))
    go_ret
    exact ⟨ret_num Q2.out.symm, by assumption⟩
   ·have q2 : szR left (nodesSz l0 + waysSz l1 + areasSz l2) = r2 := by rw [← szR_add (by rw [q1]; exact p1), q1]; exact H2.out
    have Q : Hid (szR left (nodesSz l0 + waysSz l1 + areasSz l2) = -1) := (by have := szR_bd (s := nodesSz l0 + waysSz l1 + areasSz l2) h1; rw [q2] at this ⊢; omega : szR left (nodesSz l0 + waysSz l1 + areasSz l2) = -1)
    clear q0 q1 q2
    go_enter Tryz.func4, Tryz.ntmps4
    go_wp2_with (first | (go_at_call 14; refine (szNodeS_any _ _ _ l0 bs0 _ _ (t0.bel nodeE (bel_alloc (Bel.refl _) _)) e0 m0 h0 h1).mono ?_; rintro e w0 ⟨rfl, hb0⟩; have B0 := bel_step (bel_alloc (Bel.refl w) _) hb0; obtain ⟨hc0, _, hz0⟩ := bcell hb0; rw [H0.out]) | (go_at_call 15; refine (szWayS_any _ _ _ l1 bs1 _ _ (t1.bel wayE (B0)) e1 m1 p0 b0).mono ?_; rintro e w1 ⟨rfl, hb1⟩; have B1 := bel_step B0 hb1; obtain ⟨hc1, _, hz1⟩ := bcell hb1; rw [H1.out]) | (go_at_call 16; refine (szAreaS_any _ _ _ l2 bs2 _ _ (t2.bel areaE (B1)) e2 m2 p1 b1).mono ?_; rintro e w2 ⟨rfl, hb2⟩; have B2 := bel_step B1 hb2; obtain ⟨hc2, _, hz2⟩ := bcell hb2; rw [H2.out]))
    go_ret
    exact ⟨ret_num Q.out.symm, by assumption⟩
  ·have q1 : szR left (nodesSz l0 + waysSz l1) = r1 := by rw [← szR_add (by rw [q0]; exact p0), q0]; exact H1.out
   have Q : Hid (szR left (nodesSz l0 + waysSz l1 + areasSz l2) = -1) := szR_out (by rw [q1]; omega)
   clear q0 q1
   go_enter Tryz.func4, Tryz.ntmps4
   go_wp2_with (first | (go_at_call 14; refine (szNodeS_any _ _ _ l0 bs0 _ _ (t0.bel nodeE (bel_alloc (Bel.refl _) _)) e0 m0 h0 h1).mono ?_; rintro e w0 ⟨rfl, hb0⟩; have B0 := bel_step (bel_alloc (Bel.refl w) _) hb0; obtain ⟨hc0, _, hz0⟩ := bcell hb0; rw [H0.out]) | (go_at_call 15; refine (szWayS_any _ _ _ l1 bs1 _ _ (t1.bel wayE (B0)) e1 m1 p0 b0).mono ?_; rintro e w1 ⟨rfl, hb1⟩; have B1 := bel_step B0 hb1; obtain ⟨hc1, _, hz1⟩ := bcell hb1; rw [H1.out]))
   go_ret
   exact ⟨ret_num Q.out.symm, by assumption⟩
 ·have q0 : szR left (nodesSz l0) = r0 := H0.out
  have Q : Hid (szR left (nodesSz l0 + waysSz l1 + areasSz l2) = -1) := by rw [Nat.add_assoc]; exact szR_out (by rw [q0]; omega)
  clear q0
  go_enter Tryz.func4, Tryz.ntmps4
  go_wp2_with (first | (go_at_call 14; refine (szNodeS_any _ _ _ l0 bs0 _ _ (t0.bel nodeE (bel_alloc (Bel.refl _) _)) e0 m0 h0 h1).mono ?_; rintro e w0 ⟨rfl, hb0⟩; have B0 := bel_step (bel_alloc (Bel.refl w) _) hb0; obtain ⟨hc0, _, hz0⟩ := bcell hb0; rw [H0.out]))
  go_ret
  exact ⟨ret_num Q.out.symm, by assumption⟩

set_option maxHeartbeats 1000000 in
theorem toMap_any (a0 : Option Addr) (n0 c0 : Nat) (l0 : List NodeD) (bs0 : List Nat) (a1 : Option Addr) (n1 c1 : Nat) (l1 : List WayD) (bs1 : List Nat) (a2 : Option Addr) (n2 c2 : Nat) (l2 : List AreaD) (bs2 : List Nat) (w : World) (t0 : Nodes w a0 l0 bs0) (e0 : l0.length = n0) (t1 : Ways w a1 l1 bs1) (e1 : l1.length = n1) (t2 : Areas w a2 l2 bs2) (e2 : l2.length = n2) (m0 : n0 ≤ 1048576) (h0 : ∀ i (h : i < l0.length), l0[i].tags.length ≤ 1048576) (m1 : n1 ≤ 1048576) (h1 : ∀ i (h : i < l1.length), l1[i].nodes.length ≤ 1048576 ∧ l1[i].tags.length ≤ 1048576) (m2 : n2 ≤ 1048576) (h2 : ∀ i (h : i < l2.length), l2[i].parts.length ≤ 1048576 ∧ l2[i].tags.length ≤ 1048576) :
  Calls Tryz.prog 6 #[.agg #[.slice a0 n0 c0, .slice a1 n1 c1, .slice a2 n2 c2]] w fun e w' => ∃ B0 d0 B1 d1 B2 d2, e = .returned (.agg #[.slice (some ⟨B0, 0, none⟩) n0 n0, .slice (some ⟨B1, 0, none⟩) n1 n1, .slice (some ⟨B2, 0, none⟩) n2 n2]) ∧ Nodes w' (some ⟨B0, 0, none⟩) l0 d0 ∧ Ways w' (some ⟨B1, 0, none⟩) l1 d1 ∧ Areas w' (some ⟨B2, 0, none⟩) l2 d2 ∧ Fresh w w' (d0 ++ (d1 ++ d2)) ∧ Bel w w' := by
 have E0 : Hid (l0.length = n0) := e0
 have E1 : Hid (l1.length = n1) := e1
 have E2 : Hid (l2.length = n2) := e2
 clear e0 e1 e2
 go_enter Tryz.func6, Tryz.ntmps6
 have S0 : Bel w (((w.alloc (.cells #[.slice a0 n0 c0, .slice a1 n1 c1, .slice a2 n2 c2] 26)).alloc (.cells #[.slice none 0 0, .slice none 0 0, .slice none 0 0] 39)).alloc (.cells #[.slice none 0 0, .slice none 0 0, .slice none 0 0] 39)) := bel_alloc (bel_alloc (bel_alloc (Bel.refl _) _) _) _
 have X0 : Blk (((w.alloc (.cells #[.slice a0 n0 c0, .slice a1 n1 c1, .slice a2 n2 c2] 26)).alloc (.cells #[.slice none 0 0, .slice none 0 0, .slice none 0 0] 39)).alloc (.cells #[.slice none 0 0, .slice none 0 0, .slice none 0 0] 39)) (w.heap.size) [.slice a0 n0 c0, .slice a1 n1 c1, .slice a2 n2 c2] := (Blk.new w [.slice a0 n0 c0, .slice a1 n1 c1, .slice a2 n2 c2] 26).bel (bel_alloc (bel_alloc (Bel.refl _) _) _)
 have R0 : Blk (((w.alloc (.cells #[.slice a0 n0 c0, .slice a1 n1 c1, .slice a2 n2 c2] 26)).alloc (.cells #[.slice none 0 0, .slice none 0 0, .slice none 0 0] 39)).alloc (.cells #[.slice none 0 0, .slice none 0 0, .slice none 0 0] 39)) (w.heap.size + 1) [.slice none 0 0, .slice none 0 0, .slice none 0 0] := (Blk.new1 w _ [.slice none 0 0, .slice none 0 0, .slice none 0 0] 39).bel (bel_alloc (Bel.refl _) _)
 have O0 : Blk (((w.alloc (.cells #[.slice a0 n0 c0, .slice a1 n1 c1, .slice a2 n2 c2] 26)).alloc (.cells #[.slice none 0 0, .slice none 0 0, .slice none 0 0] 39)).alloc (.cells #[.slice none 0 0, .slice none 0 0, .slice none 0 0] 39)) (w.heap.size + 1 + 1) [.slice none 0 0, .slice none 0 0, .slice none 0 0] := Blk.new2 w _ _ [.slice none 0 0, .slice none 0 0, .slice none 0 0] 39
 have y0 : w.heap.size + 3 ≤ (((w.alloc (.cells #[.slice a0 n0 c0, .slice a1 n1 c1, .slice a2 n2 c2] 26)).alloc (.cells #[.slice none 0 0, .slice none 0 0, .slice none 0 0] 39)).alloc (.cells #[.slice none 0 0, .slice none 0 0, .slice none 0 0] 39)).heap.size := by simp
 go_wp2_with fail
 refine (toNodeS_any _ _ _ l0 bs0 _ (t0.bel nodeE S0) E0.out m0 h0).mono ?_
 rintro e w1 ⟨B0, d0, rfl, u0, f0, hb1⟩
 have V1 := bel_step S0 hb1
 have X1 := X0.bel hb1
 have R1 := R0.bel hb1
 have O1 := O0.bel hb1
 have z1 : w.heap.size + 3 ≤ w1.heap.size := Nat.le_trans y0 hb1.out.size
 have x10 : w1.cell? ⟨w.heap.size, 0, none⟩ = some (.slice a0 n0 c0) := X1.cell 0 (by simp)
 have r10 : w1.cell? ⟨w.heap.size + 1, 0, none⟩ = some (.slice none 0 0) := R1.cell 0 (by simp)
 have o10 : w1.cell? ⟨w.heap.size + 1 + 1, 0, none⟩ = some (.slice none 0 0) := O1.cell 0 (by simp)
 have x11 : w1.cell? ⟨w.heap.size, 1, none⟩ = some (.slice a1 n1 c1) := X1.cell 1 (by simp)
 have r11 : w1.cell? ⟨w.heap.size + 1, 1, none⟩ = some (.slice none 0 0) := R1.cell 1 (by simp)
 have o11 : w1.cell? ⟨w.heap.size + 1 + 1, 1, none⟩ = some (.slice none 0 0) := O1.cell 1 (by simp)
 have x12 : w1.cell? ⟨w.heap.size, 2, none⟩ = some (.slice a2 n2 c2) := X1.cell 2 (by simp)
 have r12 : w1.cell? ⟨w.heap.size + 1, 2, none⟩ = some (.slice none 0 0) := R1.cell 2 (by simp)
 have o12 : w1.cell? ⟨w.heap.size + 1 + 1, 2, none⟩ = some (.slice none 0 0) := O1.cell 2 (by simp)
 have g1 := X1.free
 have gr1 := R1.free
 have go1 := O1.free
 have S1 : Bel w ((w1).setCell ⟨w.heap.size + 1 + 1, 0, none⟩ (.slice (some ⟨B0, 0, none⟩) n0 n0)) := bel_set (V1) (by show w.heap.size ≤ w.heap.size + 1 + 1; omega) _
 have O1 : Blk ((w1).setCell ⟨w.heap.size + 1 + 1, 0, none⟩ (.slice (some ⟨B0, 0, none⟩) n0 n0)) (w.heap.size + 1 + 1) [.slice (some ⟨B0, 0, none⟩) n0 n0, .slice none 0 0, .slice none 0 0] := (O1).set 0 (.slice (some ⟨B0, 0, none⟩) n0 n0) (by simp)
 have X1 : Blk ((w1).setCell ⟨w.heap.size + 1 + 1, 0, none⟩ (.slice (some ⟨B0, 0, none⟩) n0 n0)) (w.heap.size) [.slice a0 n0 c0, .slice a1 n1 c1, .slice a2 n2 c2] := (X1).far (by omega)
 have R1 : Blk ((w1).setCell ⟨w.heap.size + 1 + 1, 0, none⟩ (.slice (some ⟨B0, 0, none⟩) n0 n0)) (w.heap.size + 1) [.slice none 0 0, .slice none 0 0, .slice none 0 0] := (R1).far (by omega)
 have y1 : w.heap.size + 3 ≤ ((w1).setCell ⟨w.heap.size + 1 + 1, 0, none⟩ (.slice (some ⟨B0, 0, none⟩) n0 n0)).heap.size := by simpa [World.setCell] using z1
 have b1 : Abv (w.heap.size + 3) w1 ((w1).setCell ⟨w.heap.size + 1 + 1, 0, none⟩ (.slice (some ⟨B0, 0, none⟩) n0 n0)) := (Abv.refl (w.heap.size + 3) w1).set (by omega) _
 have k1 : w1.heap.size ≤ ((w1).setCell ⟨w.heap.size + 1 + 1, 0, none⟩ (.slice (some ⟨B0, 0, none⟩) n0 n0)).heap.size := b1.1
 go_wp2_with fail
 refine (toWayS_any _ _ _ l1 bs1 _ (t1.bel wayE S1) E1.out m1 h1).mono ?_
 rintro e w2 ⟨B1, d1, rfl, u1, f1, hb2⟩
 have V2 := bel_step S1 hb2
 have X2 := X1.bel hb2
 have R2 := R1.bel hb2
 have O2 := O1.bel hb2
 have z2 : w.heap.size + 3 ≤ w2.heap.size := Nat.le_trans y1 hb2.out.size
 have x20 : w2.cell? ⟨w.heap.size, 0, none⟩ = some (.slice a0 n0 c0) := X2.cell 0 (by simp)
 have r20 : w2.cell? ⟨w.heap.size + 1, 0, none⟩ = some (.slice none 0 0) := R2.cell 0 (by simp)
 have o20 : w2.cell? ⟨w.heap.size + 1 + 1, 0, none⟩ = some (.slice (some ⟨B0, 0, none⟩) n0 n0) := O2.cell 0 (by simp)
 have x21 : w2.cell? ⟨w.heap.size, 1, none⟩ = some (.slice a1 n1 c1) := X2.cell 1 (by simp)
 have r21 : w2.cell? ⟨w.heap.size + 1, 1, none⟩ = some (.slice none 0 0) := R2.cell 1 (by simp)
 have o21 : w2.cell? ⟨w.heap.size + 1 + 1, 1, none⟩ = some (.slice none 0 0) := O2.cell 1 (by simp)
 have x22 : w2.cell? ⟨w.heap.size, 2, none⟩ = some (.slice a2 n2 c2) := X2.cell 2 (by simp)
 have r22 : w2.cell? ⟨w.heap.size + 1, 2, none⟩ = some (.slice none 0 0) := R2.cell 2 (by simp)
 have o22 : w2.cell? ⟨w.heap.size + 1 + 1, 2, none⟩ = some (.slice none 0 0) := O2.cell 2 (by simp)
 have g2 := X2.free
 have gr2 := R2.free
 have go2 := O2.free
 have S2 : Bel w ((w2).setCell ⟨w.heap.size + 1 + 1, 1, none⟩ (.slice (some ⟨B1, 0, none⟩) n1 n1)) := bel_set (V2) (by show w.heap.size ≤ w.heap.size + 1 + 1; omega) _
 have O2 : Blk ((w2).setCell ⟨w.heap.size + 1 + 1, 1, none⟩ (.slice (some ⟨B1, 0, none⟩) n1 n1)) (w.heap.size + 1 + 1) [.slice (some ⟨B0, 0, none⟩) n0 n0, .slice (some ⟨B1, 0, none⟩) n1 n1, .slice none 0 0] := (O2).set 1 (.slice (some ⟨B1, 0, none⟩) n1 n1) (by simp)
 have X2 : Blk ((w2).setCell ⟨w.heap.size + 1 + 1, 1, none⟩ (.slice (some ⟨B1, 0, none⟩) n1 n1)) (w.heap.size) [.slice a0 n0 c0, .slice a1 n1 c1, .slice a2 n2 c2] := (X2).far (by omega)
 have R2 : Blk ((w2).setCell ⟨w.heap.size + 1 + 1, 1, none⟩ (.slice (some ⟨B1, 0, none⟩) n1 n1)) (w.heap.size + 1) [.slice none 0 0, .slice none 0 0, .slice none 0 0] := (R2).far (by omega)
 have y2 : w.heap.size + 3 ≤ ((w2).setCell ⟨w.heap.size + 1 + 1, 1, none⟩ (.slice (some ⟨B1, 0, none⟩) n1 n1)).heap.size := by simpa [World.setCell] using z2
 have b2 : Abv (w.heap.size + 3) w2 ((w2).setCell ⟨w.heap.size + 1 + 1, 1, none⟩ (.slice (some ⟨B1, 0, none⟩) n1 n1)) := (Abv.refl (w.heap.size + 3) w2).set (by omega) _
 have k2 : w2.heap.size ≤ ((w2).setCell ⟨w.heap.size + 1 + 1, 1, none⟩ (.slice (some ⟨B1, 0, none⟩) n1 n1)).heap.size := b2.1
 go_wp2_with fail
 refine (toAreaS_any _ _ _ l2 bs2 _ (t2.bel areaE S2) E2.out m2 h2).mono ?_
 rintro e w3 ⟨B2, d2, rfl, u2, f2, hb3⟩
 have V3 := bel_step S2 hb3
 have X3 := X2.bel hb3
 have R3 := R2.bel hb3
 have O3 := O2.bel hb3
 have z3 : w.heap.size + 3 ≤ w3.heap.size := Nat.le_trans y2 hb3.out.size
 have x30 : w3.cell? ⟨w.heap.size, 0, none⟩ = some (.slice a0 n0 c0) := X3.cell 0 (by simp)
 have r30 : w3.cell? ⟨w.heap.size + 1, 0, none⟩ = some (.slice none 0 0) := R3.cell 0 (by simp)
 have o30 : w3.cell? ⟨w.heap.size + 1 + 1, 0, none⟩ = some (.slice (some ⟨B0, 0, none⟩) n0 n0) := O3.cell 0 (by simp)
 have x31 : w3.cell? ⟨w.heap.size, 1, none⟩ = some (.slice a1 n1 c1) := X3.cell 1 (by simp)
 have r31 : w3.cell? ⟨w.heap.size + 1, 1, none⟩ = some (.slice none 0 0) := R3.cell 1 (by simp)
 have o31 : w3.cell? ⟨w.heap.size + 1 + 1, 1, none⟩ = some (.slice (some ⟨B1, 0, none⟩) n1 n1) := O3.cell 1 (by simp)
 have x32 : w3.cell? ⟨w.heap.size, 2, none⟩ = some (.slice a2 n2 c2) := X3.cell 2 (by simp)
 have r32 : w3.cell? ⟨w.heap.size + 1, 2, none⟩ = some (.slice none 0 0) := R3.cell 2 (by simp)
 have o32 : w3.cell? ⟨w.heap.size + 1 + 1, 2, none⟩ = some (.slice none 0 0) := O3.cell 2 (by simp)
 have g3 := X3.free
 have gr3 := R3.free
 have go3 := O3.free
 have c0 : Abv (w.heap.size + 3) w1 w3 := ((b1.bel hb2).trans b2).bel hb3
 have q0 := f0.abv y0 c0
 have F0 : Fresh w w3 d0 := q0.old (Nat.le_trans (Nat.le_add_right _ 3) y0)
 have c1 : Abv (w.heap.size + 3) w2 w3 := b2.bel hb3
 have q1 := f1.abv y1 c1
 have F1 : Fresh w w3 d1 := q1.old (Nat.le_trans (Nat.le_add_right _ 3) y1)
 have c2 : Abv (w.heap.size + 3) w3 w3 := Abv.refl _ _
 have q2 := f2.abv y2 c2
 have F2 : Fresh w w3 d2 := q2.old (Nat.le_trans (Nat.le_add_right _ 3) y2)
 have e21 := hb2.out.size
 have FG := F1.app F2 fun x hx hx' => by have h1 := (f1.new x hx).2; have h2 := (f2.new x hx').1; omega
 have FF := F0.app FG fun x hx hx' => by
  have h1 := (f0.new x hx).2
  rcases List.mem_append.1 hx' with h | h
  ·have h2 := (f1.new x h).1; omega
  ·have h2 := (f2.new x h).1; omega
 have HN : ∀ x ∈ d0 ++ (d1 ++ d2), w.heap.size + 3 ≤ x := fun x hx => (List.mem_append.1 hx).elim (fun h => Nat.le_trans y0 (f0.new x h).1) (fun h => (List.mem_append.1 h).elim (fun h => Nat.le_trans y1 (f1.new x h).1) (fun h => Nat.le_trans y2 (f2.new x h).1))
 have hA : ∀ W, Abv (w.heap.size + 3) w3 W → Bel w W → Nodes W (some ⟨B0, 0, none⟩) l0 d0 ∧ Ways W (some ⟨B1, 0, none⟩) l1 d1 ∧ Areas W (some ⟨B2, 0, none⟩) l2 d2 ∧ Fresh w W (d0 ++ (d1 ++ d2)) ∧ Bel w W := fun W h hb => ⟨u0.abv nodeE f0 y0 (c0.trans h), u1.abv wayE f1 y1 (c1.trans h), u2.abv areaE f2 y2 (c2.trans h), FF.abv0 (fun x hx => HN x hx) h, hb⟩
 go_wp2
 refine bodyPost_ret (v := .agg #[.slice (some ⟨B0, 0, none⟩) n0 n0, .slice (some ⟨B1, 0, none⟩) n1 n1, .slice (some ⟨B2, 0, none⟩) n2 n2]) (by simp [results, Tryz.results6, go_sem, r30, r31, r32]) rfl ?_
 clear x30 r30 o30 x31 r31 o31 x32 r32 o32
 refine ⟨B0, d0, B1, d1, B2, d2, rfl, hA _ ?_ ?_⟩
 ·with_reducible repeat (first | exact Abv.refl _ _ | refine Abv.set ?_ (by omega) _)
 ·(with_reducible repeat (first | exact V3 | refine bel_set ?_ ?_ _)) <;> simp <;> omega

set_option maxHeartbeats 1000000 in
theorem eqMap_same (a0 : Option Addr) (n0 c0 : Nat) (l0 : List NodeD) (bs0 : List Nat) (a1 : Option Addr) (n1 c1 : Nat) (l1 : List WayD) (bs1 : List Nat) (a2 : Option Addr) (n2 c2 : Nat) (l2 : List AreaD) (bs2 : List Nat) (a0' : Option Addr) (c0' : Nat) (bs0' : List Nat) (a1' : Option Addr) (c1' : Nat) (bs1' : List Nat) (a2' : Option Addr) (c2' : Nat) (bs2' : List Nat) (w : World) (t0 : Nodes w a0 l0 bs0) (e0 : l0.length = n0) (t1 : Ways w a1 l1 bs1) (e1 : l1.length = n1) (t2 : Areas w a2 l2 bs2) (e2 : l2.length = n2) (t0' : Nodes w a0' l0 bs0') (t1' : Ways w a1' l1 bs1') (t2' : Areas w a2' l2 bs2') (m0 : n0 ≤ 1048576) (h0 : ∀ i (h : i < l0.length), l0[i].tags.length ≤ 1048576) (m1 : n1 ≤ 1048576) (h1 : ∀ i (h : i < l1.length), l1[i].nodes.length ≤ 1048576 ∧ l1[i].tags.length ≤ 1048576) (m2 : n2 ≤ 1048576) (h2 : ∀ i (h : i < l2.length), l2[i].parts.length ≤ 1048576 ∧ l2[i].tags.length ≤ 1048576) :
  Calls Tryz.prog 10 #[.agg #[.slice a0 n0 c0, .slice a1 n1 c1, .slice a2 n2 c2], .agg #[.slice a0' n0 c0', .slice a1' n1 c1', .slice a2' n2 c2']] w fun e w' => e = .returned (.bool true) ∧ Bel w w' := by
 have S0 : Bel w ((w.alloc (.cells #[.slice a0 n0 c0, .slice a1 n1 c1, .slice a2 n2 c2] 39)).alloc (.cells #[.slice a0' n0 c0', .slice a1' n1 c1', .slice a2' n2 c2'] 39)) := bel_alloc (bel_alloc (Bel.refl _) _) _
 have X0 : Blk ((w.alloc (.cells #[.slice a0 n0 c0, .slice a1 n1 c1, .slice a2 n2 c2] 39)).alloc (.cells #[.slice a0' n0 c0', .slice a1' n1 c1', .slice a2' n2 c2'] 39)) w.heap.size [.slice a0 n0 c0, .slice a1 n1 c1, .slice a2 n2 c2] := (Blk.new w [.slice a0 n0 c0, .slice a1 n1 c1, .slice a2 n2 c2] 39).bel (bel_alloc (Bel.refl _) _)
 have Y0 : Blk ((w.alloc (.cells #[.slice a0 n0 c0, .slice a1 n1 c1, .slice a2 n2 c2] 39)).alloc (.cells #[.slice a0' n0 c0', .slice a1' n1 c1', .slice a2' n2 c2'] 39)) (w.heap.size + 1) [.slice a0' n0 c0', .slice a1' n1 c1', .slice a2' n2 c2'] := Blk.new1 w _ [.slice a0' n0 c0', .slice a1' n1 c1', .slice a2' n2 c2'] 39
 go_enter Tryz.func10, Tryz.ntmps10
 go_wp2_with fail
 refine (eqNodeS_same _ _ _ _ _ l0 bs0 bs0' _ (t0.bel nodeE S0) (t0'.bel nodeE S0) e0 m0 h0).mono ?_
 rintro e w1 ⟨rfl, hb1⟩
 have S1 := bel_step S0 hb1
 have X1 := X0.bel hb1
 have Y1 := Y0.bel hb1
 have x10 : w1.cell? ⟨w.heap.size, 0, none⟩ = some (.slice a0 n0 c0) := X1.cell 0 (by simp)
 have y10 : w1.cell? ⟨w.heap.size + 1, 0, none⟩ = some (.slice a0' n0 c0') := Y1.cell 0 (by simp)
 have x11 : w1.cell? ⟨w.heap.size, 1, none⟩ = some (.slice a1 n1 c1) := X1.cell 1 (by simp)
 have y11 : w1.cell? ⟨w.heap.size + 1, 1, none⟩ = some (.slice a1' n1 c1') := Y1.cell 1 (by simp)
 have x12 : w1.cell? ⟨w.heap.size, 2, none⟩ = some (.slice a2 n2 c2) := X1.cell 2 (by simp)
 have y12 : w1.cell? ⟨w.heap.size + 1, 2, none⟩ = some (.slice a2' n2 c2') := Y1.cell 2 (by simp)
 go_wp2_with fail
 refine (eqWayS_same _ _ _ _ _ l1 bs1 bs1' _ (t1.bel wayE S1) (t1'.bel wayE S1) e1 m1 h1).mono ?_
 rintro e w2 ⟨rfl, hb2⟩
 have S2 := bel_step S1 hb2
 have X2 := X1.bel hb2
 have Y2 := Y1.bel hb2
 have x20 : w2.cell? ⟨w.heap.size, 0, none⟩ = some (.slice a0 n0 c0) := X2.cell 0 (by simp)
 have y20 : w2.cell? ⟨w.heap.size + 1, 0, none⟩ = some (.slice a0' n0 c0') := Y2.cell 0 (by simp)
 have x21 : w2.cell? ⟨w.heap.size, 1, none⟩ = some (.slice a1 n1 c1) := X2.cell 1 (by simp)
 have y21 : w2.cell? ⟨w.heap.size + 1, 1, none⟩ = some (.slice a1' n1 c1') := Y2.cell 1 (by simp)
 have x22 : w2.cell? ⟨w.heap.size, 2, none⟩ = some (.slice a2 n2 c2) := X2.cell 2 (by simp)
 have y22 : w2.cell? ⟨w.heap.size + 1, 2, none⟩ = some (.slice a2' n2 c2') := Y2.cell 2 (by simp)
 go_wp2_with fail
 refine (eqAreaS_same _ _ _ _ _ l2 bs2 bs2' _ (t2.bel areaE S2) (t2'.bel areaE S2) e2 m2 h2).mono ?_
 rintro e w3 ⟨rfl, hb3⟩
 have S3 := bel_step S2 hb3
 go_wp2
 go_ret
 exact ⟨rfl, S3⟩

end Go.Proofs.YtldfcnlhjjiihaaGreat
