/-
  Contracts of the laws' own functions on String data: counted, copied, held against each other.
-/
import Derived.Test.YtkmccjjghpnejaaGB
import Derived.Test.YtkmccjjghpnejaaLinD
import Derived.Deep.LoopGhost
import Derived.OwnWalk
import Derived.Deep.RegionHeld3
namespace Go.Proofs.Ytkmccjjghpnejaa
open Go.RowKit

set_option maxHeartbeats 1000000 in
theorem szStringS_any (a : Option Addr) (n c : Nat) (l : List ByteArray) (bs : List Nat) (left : Int) (w : World) (hT : StrL w a l bs) (hn : l.length = n) (hm : n ≤ 9223372036854775807) (h0 : 0 ≤ left) (h1 : left ≤ 1048576) :
  Calls Try.prog 46 #[.slice a n c, .int .i64 left] w fun e w' => e = .returned (.int .i64 (szR left (strsSz l))) ∧ Bel w w' := by
 have Hn : Hid (l.length = n) := hn
 have HS : Hid (strsSz l = n + sumTo strSz l n) := (by unfold strsSz; rw [hn] : strsSz l = n + sumTo strSz l n)
 clear hn
 by_cases hf : (n : Int) ≤ left
 ·go_enter Try.func46, Try.ntmps46
  go_wp2
  go_loopw [1, 5] (fun t i wr => ∃ (k : Nat) (cur : Int), k ≤ n ∧ i = .int .i64 k ∧ t = .int .i64 cur ∧ 0 ≤ cur ∧ cur ≤ 1048576 ∧ Hid (cur = left - n - sumTo strSz l k) ∧ Bel w wr) (fun _ i _ => n - (intOf i).toNat)
  case atStart => exact ⟨0, left - n, Nat.zero_le _, rfl, rfl, by omega, by omega, (by rw [sumTo_zero]; omega : left - (n : Int) = left - n - ((sumTo strSz l 0 : Nat) : Int)), Bel.refl _⟩
  case round =>
   obtain ⟨k, cur, hk, rfl, rfl, p0, p1, HC, hbel⟩ := hrel
   by_cases hlt : k < n
   ·have hkl : k < l.length := by rw [Hn.out]; exact hlt
    obtain ⟨b, off, f, rfl, hb, hx⟩ := (hT.bel strE hbel).out hkl
    obtain ⟨_, s0, c0⟩ := hx k hkl
    simp only [Nat.mul_one] at c0
    have HU : Hid (sumTo strSz l (k + 1) = sumTo strSz l k + strSz l[k]) := sumTo_succ _ hkl
    have HL : Hid (sumTo strSz l (k + 1) ≤ sumTo strSz l n) := sumTo_le _ (by omega) Hn.out.symm
    obtain ⟨z, HZ⟩ : ∃ z, Hid (l[k].size = z) := ⟨_, (rfl : l[k].size = _)⟩
    have HZ2 : Hid (strSz l[k] = z) := HZ.out
    have hz : z ≤ 9223372036854775807 := by rw [← HZ.out]; exact s0
    clear hx hT s0
    by_cases p : (z : Int) ≤ cur
    ·have HN : Hid (cur - z = left - n - sumTo strSz l (k + 1)) := by
      have h3 := HC.out; have h4 := HU.out; have h5 := HZ2.out
      show cur - z = _
      omega
     go_wp2_with (rw [HZ.out])
     go_roundw
     case rel => exact ⟨k + 1, cur - z, by omega, by go_num, rfl, by omega, by omega, HN, hbel⟩
     case measure => simp [intOf]; omega
    ·have HN : Hid (szR left (strsSz l) = -1) := by
      have h3 := HC.out; have h4 := HU.out; have h6 := HL.out; have h5 := HZ2.out
      rw [HS.out]
      exact szR_neg (by omega)
     go_wp2_with (rw [HZ.out])
     go_ret
     exact ⟨ret_num HN.out.symm, hbel⟩
   ·have e : k = n := by omega
    subst e
    have HN : Hid (szR left (strsSz l) = cur) := by
     have h3 := HC.out
     have h5 : ((k + sumTo strSz l k : Nat) : Int) ≤ left := by omega
     rw [HS.out, szR_pos h5]
     show _ = _
     omega
    go_wp2
    go_ret
    exact ⟨ret_num HN.out.symm, hbel⟩
 ·have HN : Hid (szR left (strsSz l) = -1) := by rw [HS.out]; exact szR_neg (by omega)
  go_enter Try.func46, Try.ntmps46
  go_wp2
  go_ret
  exact ⟨ret_num HN.out.symm, Bel.refl _⟩

theorem infoString : (Try.prog.info? 9).map (fun i => (i.zero, i.size, i.bytes)) = some (some (.string ⟨#[]⟩), 1, 16) := by kernel_rfl
set_option maxHeartbeats 1000000 in
theorem toStringS_any (a : Option Addr) (n c : Nat) (l : List ByteArray) (bs : List Nat) (w : World) (hT : StrL w a l bs) (hn : l.length = n) (hm : n ≤ 1048576) :
  Calls Try.prog 51 #[.slice a n c] w fun e w' => ∃ B cs, e = .returned (.slice (some ⟨B, 0, none⟩) n n) ∧ StrL w' (some ⟨B, 0, none⟩) l cs ∧ Fresh w w' cs ∧ Bel w w' := by
 have Hn : Hid (l.length = n) := hn
 clear hn
 have hmk : ∀ w : World, (Instr.makeSlice 39 (.int .i64 n) (.int .i64 n)).run Try.prog w = .ok (.slice (some ⟨w.heap.size, 0, none⟩) n n) (w.alloc (.cells (madeCells #[.string ⟨#[]⟩] (n * 1)) 9)) := fun w => by
  obtain ⟨i0, hi, hz0, hz1, hz2⟩ := info_parts infoString
  have := run_make (P := Try.prog) w 39 9 i0 (.string ⟨#[]⟩) Try.underlying39 hi hz0 .i64 .i64 n n (by omega) (by omega) (by rw [hz2]; omega) (by omega)
  rw [hz1] at this
  exact this
 go_enter Try.func51, Try.ntmps51
 go_wp2
 go_loopw [4] (fun i wr => ∃ k : Nat, k ≤ n ∧ i = .int .i64 k ∧ (∃ f, Fill 1 StrE wr w.heap.size n k l f) ∧ Bel w wr) (fun i _ => n - (intOf i).toNat)
 case atStart => exact ⟨0, Nat.zero_le _, rfl, ⟨_, by have := Fill.start (E := StrE) w #[.string ⟨#[]⟩] 1 n 9 l; rw [Nat.mul_one] at this; exact this⟩, bel_alloc (Bel.refl _) _⟩
 case round =>
  obtain ⟨k, hk, rfl, ⟨g, hrow⟩, hbel⟩ := hrel
  by_cases hlt : k < n
  ·have hkl : k < l.length := by rw [Hn.out]; exact hlt
   obtain ⟨b, off, f, rfl, hb, hx⟩ := (hT.bel strE hbel).out hkl
   obtain ⟨_, in0, c0⟩ := hx k hkl
   clear hx hT
   have hr1 := hrow
   have hB1 := hbel
   simp only [Nat.mul_one] at c0
   obtain ⟨v0, d50⟩ := hr1.there (k) (by omega)
   have f0 := hr1.free (k)
   go_wp2
   go_roundw
   case rel =>
    have S := setRow_in w.heap.size [.string l[k]] wr (k * 1) (fun j hj => hr1.there _ (by simp at hj; omega))
    have PP := hrow.put strE (Bel.refl _) hlt Hn.out (Fresh.nil _ _) [.string l[k]] rfl ⟨rfl, in0, S 0 (by simp)⟩
    rw [Nat.mul_one] at PP
    exact ⟨k + 1, by omega, by go_num, ⟨_, PP⟩, setRow_bel hB1 (Nat.le_refl _) [.string l[k]] k⟩
   case measure => simp [intOf]; omega
  ·have e : k = n := by omega
   subst e
   go_wp2
   go_ret
   exact ⟨_, _, rfl, hrow.sl Hn.out, hrow.fresh (Nat.le_refl _), hbel⟩

set_option maxHeartbeats 1000000 in
theorem eqStringS_same (a a' : Option Addr) (n c c' : Nat) (l : List ByteArray) (bs bs' : List Nat) (w : World) (hP : StrL w a l bs) (hP' : StrL w a' l bs') (hn : l.length = n) (hm : n ≤ 1048576) :
  Calls Try.prog 60 #[.slice a n c, .slice a' n c'] w fun e w' => e = .returned (.bool true) ∧ Bel w w' := by
 have Hn : Hid (l.length = n) := hn
 clear hn
 go_enter Try.func60, Try.ntmps60
 go_wp2
 go_loopw [5] (fun i wr => ∃ k : Nat, k ≤ n ∧ i = .int .i64 k ∧ Bel w wr) (fun i _ => n - (intOf i).toNat)
 case atStart => exact ⟨0, Nat.zero_le _, rfl, Bel.refl _⟩
 case round =>
  obtain ⟨k, hk, rfl, hbel⟩ := hrel
  by_cases hlt : k < n
  ·have hkl : k < l.length := by rw [Hn.out]; exact hlt
   obtain ⟨b, off, f, rfl, h2, h3⟩ := (hP.bel strE hbel).out hkl
   obtain ⟨b', off', f', rfl, h2', h3'⟩ := (hP'.bel strE hbel).out hkl
   obtain ⟨_, in0, c0⟩ := h3 k hkl
   obtain ⟨_, in0', c0'⟩ := h3' k hkl
   simp only [Nat.mul_one] at c0 c0'
   have hR : ∀ w', Bel wr w' → w'.cell? ⟨b, off + k, none⟩ = some (.string l[k]) ∧ w'.cell? ⟨b', off' + k, none⟩ = some (.string l[k]) :=
    fun w' h => ⟨bel_cellM h h2 c0, bel_cellM h h2' c0'⟩
   have hlt' : (k : Int) < (n : Int) := by omega
   have g0 : Bel wr wr := Bel.refl _
   clear h3 h3' c0 c0' h2 h2' hP hP'
   go_wp2
   go_quiet (fail)
   have hH : Bel wr (wr.drewN nq) := bel_drewN (Bel.refl _) _
   go_wp2
   go_roundw
   case rel => exact ⟨k + 1, by omega, by go_num, bel_step hbel hH⟩
   case measure => simp [intOf]; omega
  ·have e : k = n := by omega
   subst e
   go_wp2
   go_ret
   exact ⟨rfl, hbel⟩

end Go.Proofs.Ytkmccjjghpnejaa
