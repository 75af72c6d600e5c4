/-
  Contracts of the laws' own functions on Call data: counted, copied, held against each other.
-/
import Derived.Test.YtkmccjjghpnejaaGB
import Derived.Test.YtkmccjjghpnejaaLinD
import Derived.Deep.LoopGhost
import Derived.OwnWalk
import Derived.Deep.RegionHeld3
namespace Go.Proofs.Ytkmccjjghpnejaa
open Go.RowKit

theorem toCall_any (x0 : Int) (x1 : Int) (x2 : Int) (w : World) :
  Calls Try.prog 120 #[.agg #[.int .i64 x0, .int .i64 x1, .int .i64 x2]] w fun e w' => e = .returned (.agg #[.int .i64 x0, .int .i64 x1, .int .i64 x2]) ∧ Bel w w' := by
 go_enter Try.func120, Try.ntmps120
 go_wp2
 exact bodyPost_ret (v := .agg #[.int .i64 x0, .int .i64 x1, .int .i64 x2]) (by simp [results, Try.results120, go_sem]) rfl ⟨rfl, bel_alloc (bel_alloc (bel_alloc (Bel.refl _) _) _) _⟩

theorem eqCall_same (x0 : Int) (x1 : Int) (x2 : Int) (w : World) :
  Calls Try.prog 121 #[.agg #[.int .i64 x0, .int .i64 x1, .int .i64 x2], .agg #[.int .i64 x0, .int .i64 x1, .int .i64 x2]] w fun e w' => e = .returned (.bool true) ∧ Bel w w' := by
 go_enter Try.func121, Try.ntmps121
 go_wp2
 go_ret
 exact ⟨rfl, bel_alloc (bel_alloc (Bel.refl _) _) _⟩

theorem szCallS_any (a : Option Addr) (n c : Nat) (l : List CalD) (bs : List Nat) (left : Int) (w : World) (_hT : CalL w a l bs) (hn : l.length = n) (hm : n ≤ 9223372036854775807) (h0 : 0 ≤ left) (h1 : left ≤ 1048576) :
  Calls Try.prog 111 #[.slice a n c, .int .i64 left] w fun e w' => e = .returned (.int .i64 (szR left l.length)) ∧ Bel w w' := by
 rw [hn]
 by_cases hf : (n : Int) ≤ left
 ·rw [szR_pos hf]
  go_enter Try.func111, Try.ntmps111
  go_wp2
  go_ret
  exact ⟨rfl, Bel.refl _⟩
 ·rw [szR_neg hf]
  go_enter Try.func111, Try.ntmps111
  go_wp2
  go_ret
  exact ⟨rfl, Bel.refl _⟩

theorem infoCall : (Try.prog.info? 108).map (fun i => (i.zero, i.size, i.bytes)) = some (some (.agg #[.int .i64 0, .int .i64 0, .int .i64 0]), 3, 24) := by kernel_rfl
set_option maxHeartbeats 1000000 in
theorem toCallS_any (a : Option Addr) (n c : Nat) (l : List CalD) (bs : List Nat) (w : World) (hT : CalL w a l bs) (hn : l.length = n) (hm : n ≤ 1048576) :
  Calls Try.prog 112 #[.slice a n c] w fun e w' => ∃ B cs, e = .returned (.slice (some ⟨B, 0, none⟩) n n) ∧ CalL w' (some ⟨B, 0, none⟩) l cs ∧ Fresh w w' cs ∧ Bel w w' := by
 have Hn : Hid (l.length = n) := hn
 clear hn
 have hmk : ∀ w : World, (Instr.makeSlice 90 (.int .i64 n) (.int .i64 n)).run Try.prog w = .ok (.slice (some ⟨w.heap.size, 0, none⟩) n n) (w.alloc (.cells (madeCells #[.int .i64 0, .int .i64 0, .int .i64 0] (n * 3)) 108)) := fun w => by
  obtain ⟨i0, hi, hz0, hz1, hz2⟩ := info_parts infoCall
  have := run_make (P := Try.prog) w 90 108 i0 (.agg #[.int .i64 0, .int .i64 0, .int .i64 0]) Try.underlying90 hi hz0 .i64 .i64 n n (by omega) (by omega) (by rw [hz2]; omega) (by omega)
  rw [hz1] at this
  exact this
 go_enter Try.func112, Try.ntmps112
 go_wp2
 go_loopw [4] (fun i wr => ∃ k : Nat, k ≤ n ∧ i = .int .i64 k ∧ (∃ f, Fill 3 CalE wr w.heap.size n k l f) ∧ Bel w wr) (fun i _ => n - (intOf i).toNat)
 case atStart => exact ⟨0, Nat.zero_le _, rfl, ⟨_, Fill.start _ _ _ _ _ _⟩, bel_alloc (Bel.refl _) _⟩
 case round =>
  obtain ⟨k, hk, rfl, ⟨g, hrow⟩, hbel⟩ := hrel
  by_cases hlt : k < n
  ·have hkl : k < l.length := by rw [Hn.out]; exact hlt
   obtain ⟨b, off, f, rfl, hb, hx⟩ := (hT.bel calE hbel).out hkl
   obtain ⟨_, in0, in1, in2, c0, c1, c2⟩ := hx k hkl
   clear hx hT
   go_wp2_with fail
   refine (toCall_any l[k].stop l[k].arr l[k].dep _).mono ?_
   rintro e w1 ⟨rfl, hb1⟩
   have hr1 := hrow.bel calE hb1
   have hB1 : Bel w w1 := bel_step hbel hb1
   obtain ⟨v0, d50⟩ := hr1.there (k * 3) (by omega)
   have f0 := hr1.free (k * 3)
   obtain ⟨v1, d51⟩ := hr1.there (k * 3 + 1) (by omega)
   have f1 := hr1.free (k * 3 + 1)
   obtain ⟨v2, d52⟩ := hr1.there (k * 3 + 2) (by omega)
   have f2 := hr1.free (k * 3 + 2)
   clear c0 c1 c2 hb hbel
   go_wp2
   go_roundw
   case rel =>
    have S := setRow_in w.heap.size [.int .i64 l[k].stop, .int .i64 l[k].arr, .int .i64 l[k].dep] w1 (k * 3) (fun j hj => hr1.there _ (by simp at hj; omega))
    exact ⟨k + 1, by omega, by go_num, ⟨_, hrow.put calE hb1 hlt Hn.out (Fresh.nil _ _) [.int .i64 l[k].stop, .int .i64 l[k].arr, .int .i64 l[k].dep] rfl ⟨rfl, in0, in1, in2, S 0 (by simp), S 1 (by simp), S 2 (by simp)⟩⟩, setRow_bel hB1 (Nat.le_refl _) [.int .i64 l[k].stop, .int .i64 l[k].arr, .int .i64 l[k].dep] (k * 3)⟩
   case measure => simp [intOf]; omega
  ·have e : k = n := by omega
   subst e
   go_wp2
   go_ret
   exact ⟨_, _, rfl, hrow.sl Hn.out, hrow.fresh (Nat.le_refl _), hbel⟩

set_option maxHeartbeats 1000000 in
theorem eqCallS_same (a a' : Option Addr) (n c c' : Nat) (l : List CalD) (bs bs' : List Nat) (w : World) (hP : CalL w a l bs) (hP' : CalL w a' l bs') (hn : l.length = n) (hm : n ≤ 1048576) :
  Calls Try.prog 113 #[.slice a n c, .slice a' n c'] w fun e w' => e = .returned (.bool true) ∧ Bel w w' := by
 have Hn : Hid (l.length = n) := hn
 clear hn
 go_enter Try.func113, Try.ntmps113
 go_wp2
 go_loopw [5] (fun i wr => ∃ k : Nat, k ≤ n ∧ i = .int .i64 k ∧ Bel w wr) (fun i _ => n - (intOf i).toNat)
 case atStart => exact ⟨0, Nat.zero_le _, rfl, Bel.refl _⟩
 case round =>
  obtain ⟨k, hk, rfl, hbel⟩ := hrel
  by_cases hlt : k < n
  ·have hkl : k < l.length := by rw [Hn.out]; exact hlt
   obtain ⟨b, off, f, rfl, h2, h3⟩ := (hP.bel calE hbel).out hkl
   obtain ⟨b', off', f', rfl, h2', h3'⟩ := (hP'.bel calE hbel).out hkl
   obtain ⟨_, in0, in1, in2, c0, c1, c2⟩ := h3 k hkl
   obtain ⟨_, in0', in1', in2', c0', c1', c2'⟩ := h3' k hkl
   have hR : ∀ w', Bel wr w' → w'.cell? ⟨b, off + k * 3, none⟩ = some (.int .i64 l[k].stop) ∧ w'.cell? ⟨b, off + k * 3 + 1, none⟩ = some (.int .i64 l[k].arr) ∧ w'.cell? ⟨b, off + k * 3 + 2, none⟩ = some (.int .i64 l[k].dep) ∧ w'.cell? ⟨b', off' + k * 3, none⟩ = some (.int .i64 l[k].stop) ∧ w'.cell? ⟨b', off' + k * 3 + 1, none⟩ = some (.int .i64 l[k].arr) ∧ w'.cell? ⟨b', off' + k * 3 + 2, none⟩ = some (.int .i64 l[k].dep) :=
    fun w' h => ⟨bel_cellM h h2 c0, bel_cellM h h2 c1, bel_cellM h h2 c2, bel_cellM h h2' c0', bel_cellM h h2' c1', bel_cellM h h2' c2'⟩
   have hlt' : (k : Int) < (n : Int) := by omega
   have g0 : Bel wr wr := Bel.refl _
   clear h3 h3' c0 c0' c1 c1' c2 c2' h2 h2' hP hP'
   go_wp2
   go_region_held3 (fun w' => Bel wr w') (repeat (first | exact g0 | refine Bel.drew ?_ | assumption | refine bel_then (by assumption) ?_))
    (first
     | (go_at_call 121; refine (eqCall_same l[k].stop l[k].arr l[k].dep _).mono ?_; rintro e w' ⟨rfl, hbk⟩))
   have hH : Bel wr w' := by assumption
   go_wp2
   go_roundw
   case rel => exact ⟨k + 1, by omega, by go_num, bel_step hbel hH⟩
   case measure => simp [intOf]; omega
  ·have e : k = n := by omega
   subst e
   go_wp2
   go_ret
   exact ⟨rfl, hbel⟩

end Go.Proofs.Ytkmccjjghpnejaa
