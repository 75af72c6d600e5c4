/-
  Contracts of the laws' own functions on Point data: counted, copied, held against each other.
-/
import Derived.Test.YtbfcmlajlppmdaaGB
import Derived.Deep.LoopGhost
import Derived.OwnWalk
import Derived.Deep.RegionHeld3
namespace Go.Proofs.Ytbfcmlajlppmdaa
open Go.RowKit

theorem szPtS_any (a : Option Addr) (n c : Nat) (l : List PtD) (bs : List Nat) (left : Int) (w : World) (_hT : PtL w a l bs) (hn : l.length = n) (hm : n ≤ 9223372036854775807) (h0 : 0 ≤ left) (h1 : left ≤ 1048576) :
  Calls Try.prog 6 #[.slice a n c, .int .i64 left] w fun e w' => e = .returned (.int .i64 (szR left l.length)) ∧ Bel w w' := by
 rw [hn]
 by_cases hf : (n : Int) ≤ left
 ·rw [szR_pos hf]
  go_enter Try.func6, Try.ntmps6
  go_wp2
  go_ret
  exact ⟨rfl, Bel.refl _⟩
 ·rw [szR_neg hf]
  go_enter Try.func6, Try.ntmps6
  go_wp2
  go_ret
  exact ⟨rfl, Bel.refl _⟩

theorem infoPoint : (Try.prog.info? 32).map (fun i => (i.zero, i.size, i.bytes)) = some (some (.agg #[.int .i64 0, .int .i64 0]), 2, 16) := by kernel_rfl
set_option maxHeartbeats 1000000 in
theorem toPtS_any (a : Option Addr) (n c : Nat) (l : List PtD) (bs : List Nat) (w : World) (hT : PtL w a l bs) (hn : l.length = n) (hm : n ≤ 1048576) :
  Calls Try.prog 8 #[.slice a n c] w fun e w' => ∃ B cs, e = .returned (.slice (some ⟨B, 0, none⟩) n n) ∧ PtL w' (some ⟨B, 0, none⟩) l cs ∧ Fresh w w' cs ∧ Bel w w' := by
 have Hn : Hid (l.length = n) := hn
 clear hn
 have hmk : ∀ w : World, (Instr.makeSlice 30 (.int .i64 n) (.int .i64 n)).run Try.prog w = .ok (.slice (some ⟨w.heap.size, 0, none⟩) n n) (w.alloc (.cells (madeCells #[.int .i64 0, .int .i64 0] (n * 2)) 32)) := fun w => by
  obtain ⟨i0, hi, hz0, hz1, hz2⟩ := info_parts infoPoint
  have := run_make (P := Try.prog) w 30 32 i0 (.agg #[.int .i64 0, .int .i64 0]) Try.underlying30 hi hz0 .i64 .i64 n n (by omega) (by omega) (by rw [hz2]; omega) (by omega)
  rw [hz1] at this
  exact this
 go_enter Try.func8, Try.ntmps8
 go_wp2
 go_loopw [4] (fun i wr => ∃ k : Nat, k ≤ n ∧ i = .int .i64 k ∧ (∃ f, Fill 2 PtE wr w.heap.size n k l f) ∧ Bel w wr) (fun i _ => n - (intOf i).toNat)
 case atStart => exact ⟨0, Nat.zero_le _, rfl, ⟨_, Fill.start _ _ _ _ _ _⟩, bel_alloc (Bel.refl _) _⟩
 case round =>
  obtain ⟨k, hk, rfl, ⟨g, hrow⟩, hbel⟩ := hrel
  by_cases hlt : k < n
  ·have hkl : k < l.length := by rw [Hn.out]; exact hlt
   obtain ⟨b, off, f, rfl, hb, hx⟩ := (hT.bel ptE hbel).out hkl
   obtain ⟨_, in0, in1, c0, c1⟩ := hx k hkl
   clear hx hT
   go_wp2_with fail
   refine (toPoint_any l[k].x l[k].y _).mono ?_
   rintro e w1 ⟨rfl, hb1⟩
   have hr1 := hrow.bel ptE hb1
   have hB1 : Bel w w1 := bel_step hbel hb1
   obtain ⟨v0, d50⟩ := hr1.there (k * 2) (by omega)
   have f0 := hr1.free (k * 2)
   obtain ⟨v1, d51⟩ := hr1.there (k * 2 + 1) (by omega)
   have f1 := hr1.free (k * 2 + 1)
   clear c0 c1 hb hbel
   go_wp2
   go_roundw
   case rel =>
    have S := setRow_in w.heap.size [.int .i64 l[k].x, .int .i64 l[k].y] w1 (k * 2) (fun j hj => hr1.there _ (by simp at hj; omega))
    exact ⟨k + 1, by omega, by go_num, ⟨_, hrow.put ptE hb1 hlt Hn.out (Fresh.nil _ _) [.int .i64 l[k].x, .int .i64 l[k].y] rfl ⟨rfl, in0, in1, S 0 (by simp), S 1 (by simp)⟩⟩, setRow_bel hB1 (Nat.le_refl _) [.int .i64 l[k].x, .int .i64 l[k].y] (k * 2)⟩
   case measure => simp [intOf]; omega
  ·have e : k = n := by omega
   subst e
   go_wp2
   go_ret
   exact ⟨_, _, rfl, hrow.sl Hn.out, hrow.fresh (Nat.le_refl _), hbel⟩

end Go.Proofs.Ytbfcmlajlppmdaa
