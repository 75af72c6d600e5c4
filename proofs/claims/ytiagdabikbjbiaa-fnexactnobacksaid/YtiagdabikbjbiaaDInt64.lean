/-
  Contracts of the laws' own functions on Int64 data: counted, copied, held against each other.
-/
import Derived.Test.YtiagdabikbjbiaaXA
import Derived.Deep.LoopGhost
import Derived.OwnWalk
import Derived.Deep.RegionHeld3
namespace Go.Proofs.Ytiagdabikbjbiaa
open Go.RowKit

theorem szInt64S_any (a : Option Addr) (n c : Nat) (l : List Int) (bs : List Nat) (left : Int) (w : World) (_hT : Ints w a l bs) (hn : l.length = n) (hm : n ≤ 9223372036854775807) (h0 : 0 ≤ left) (h1 : left ≤ 1048576) :
    Calls Try.prog 21 #[.slice a n c, .int .i64 left] w fun e w' => e = .returned (.int .i64 (szR left l.length)) ∧ Bel w w' := by
  rw [hn]
  by_cases hf : (n : Int) ≤ left
  · rw [szR_pos hf]
    go_enter Try.func21, Try.ntmps21
    go_wp2
    go_ret
    exact ⟨rfl, Bel.refl _⟩
  · rw [szR_neg hf]
    go_enter Try.func21, Try.ntmps21
    go_wp2
    go_ret
    exact ⟨rfl, Bel.refl _⟩

theorem infoInt64 : (Try.prog.info? 2).map (fun i => (i.zero, i.size, i.bytes)) = some (some (.int .i64 0), 1, 8) := by kernel_rfl
set_option maxHeartbeats 1000000 in
theorem toInt64S_any (a : Option Addr) (n c : Nat) (l : List Int) (bs : List Nat) (w : World) (hT : Ints w a l bs) (hn : l.length = n) (hm : n ≤ 1048576) :
    Calls Try.prog 29 #[.slice a n c] w fun e w' => ∃ B cs, e = .returned (.slice (some ⟨B, 0, none⟩) n n) ∧ Ints w' (some ⟨B, 0, none⟩) l cs ∧ Fresh w w' cs ∧ Bel w w' := by
  have Hn : Hid (l.length = n) := hn
  clear hn
  have hmk : ∀ w : World, (Instr.makeSlice 48 (.int .i64 n) (.int .i64 n)).run Try.prog w = .ok (.slice (some ⟨w.heap.size, 0, none⟩) n n) (w.alloc (.cells (madeCells #[.int .i64 0] (n * 1)) 2)) := fun w => by
    obtain ⟨i0, hi, hz0, hz1, hz2⟩ := info_parts infoInt64
    have := run_make (P := Try.prog) w 48 2 i0 (.int .i64 0) Try.underlying48 hi hz0 .i64 .i64 n n (by omega) (by omega) (by rw [hz2]; omega) (by omega)
    rw [hz1] at this
    exact this
  go_enter Try.func29, Try.ntmps29
  go_wp2
  go_loopw [4] (fun i wr => ∃ k : Nat, k ≤ n ∧ i = .int .i64 k ∧ (∃ f, Fill 1 IntE wr w.heap.size n k l f) ∧ Bel w wr) (fun i _ => n - (intOf i).toNat)
  case atStart => exact ⟨0, Nat.zero_le _, rfl, ⟨_, by have := Fill.start (E := IntE) w #[.int .i64 0] 1 n 2 l; rw [Nat.mul_one] at this; exact this⟩, bel_alloc (Bel.refl _) _⟩
  case round =>
    obtain ⟨k, hk, rfl, ⟨g, hrow⟩, hbel⟩ := hrel
    by_cases hlt : k < n
    · have hkl : k < l.length := by rw [Hn.out]; exact hlt
      obtain ⟨b, off, f, rfl, hb, hx⟩ := (hT.bel intE hbel).out hkl
      obtain ⟨_, in0, c0⟩ := hx k hkl
      clear hx hT
      have hr1 := hrow
      have hB1 := hbel
      simp only [Nat.mul_one] at c0
      obtain ⟨v0, d50⟩ := hr1.there (k) (by omega)
      have f0 := hr1.free (k)
      go_wp2
      go_roundw
      case rel =>
        have S := setRow_in w.heap.size [.int .i64 l[k]] wr (k * 1) (fun j hj => hr1.there _ (by simp at hj; omega))
        have PP := hrow.put intE (Bel.refl _) hlt Hn.out (Fresh.nil _ _) [.int .i64 l[k]] rfl ⟨rfl, in0, S 0 (by simp)⟩
        rw [Nat.mul_one] at PP
        exact ⟨k + 1, by omega, by go_num, ⟨_, PP⟩, setRow_bel hB1 (Nat.le_refl _) [.int .i64 l[k]] k⟩
      case measure => simp [intOf]; omega
    · have e : k = n := by omega
      subst e
      go_wp2
      go_ret
      exact ⟨_, _, rfl, hrow.sl Hn.out, hrow.fresh (Nat.le_refl _), hbel⟩

set_option maxHeartbeats 1000000 in
theorem eqInt64S_same (a a' : Option Addr) (n c c' : Nat) (l : List Int) (bs bs' : List Nat) (w : World) (hP : Ints w a l bs) (hP' : Ints w a' l bs') (hn : l.length = n) (hm : n ≤ 1048576) :
    Calls Try.prog 36 #[.slice a n c, .slice a' n c'] w fun e w' => e = .returned (.bool true) ∧ Bel w w' := by
  have Hn : Hid (l.length = n) := hn
  clear hn
  go_enter Try.func36, Try.ntmps36
  go_wp2
  go_loopw [5] (fun i wr => ∃ k : Nat, k ≤ n ∧ i = .int .i64 k ∧ Bel w wr) (fun i _ => n - (intOf i).toNat)
  case atStart => exact ⟨0, Nat.zero_le _, rfl, Bel.refl _⟩
  case round =>
    obtain ⟨k, hk, rfl, hbel⟩ := hrel
    by_cases hlt : k < n
    · have hkl : k < l.length := by rw [Hn.out]; exact hlt
      obtain ⟨b, off, f, rfl, h2, h3⟩ := (hP.bel intE hbel).out hkl
      obtain ⟨b', off', f', rfl, h2', h3'⟩ := (hP'.bel intE hbel).out hkl
      obtain ⟨_, in0, c0⟩ := h3 k hkl
      obtain ⟨_, in0', c0'⟩ := h3' k hkl
      simp only [Nat.mul_one] at c0 c0'
      have hR : ∀ w', Bel wr w' → w'.cell? ⟨b, off + k, none⟩ = some (.int .i64 l[k]) ∧ w'.cell? ⟨b', off' + k, none⟩ = some (.int .i64 l[k]) :=
        fun w' h => ⟨bel_cellM h h2 c0, bel_cellM h h2' c0'⟩
      have hlt' : (k : Int) < (n : Int) := by omega
      have g0 : Bel wr wr := Bel.refl _
      clear h3 h3' c0 c0' h2 h2' hP hP'
      go_wp2
      go_quiet (fail)
      have hH : Bel wr (wr.drewN nq) := bel_drewN (Bel.refl _) _
      go_wp2
      go_roundw
      case rel => exact ⟨k + 1, by omega, by go_num, bel_step hbel hH⟩
      case measure => simp [intOf]; omega
    · have e : k = n := by omega
      subst e
      go_wp2
      go_ret
      exact ⟨rfl, hbel⟩

end Go.Proofs.Ytiagdabikbjbiaa
