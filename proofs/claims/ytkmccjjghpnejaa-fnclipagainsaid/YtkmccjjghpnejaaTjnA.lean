/-
  What the law of tiles that join asks: all points can be, a point lies in a box, the points of a row at an X.
-/
import Derived.Test.YtkmccjjghpnejaaDrawX
import Derived.Test.YtkmccjjghpnejaaCE
import Derived.Test.YtkmccjjghpnejaaCB
import Derived.Test.YtkmccjjghpnejaaGB
namespace Go.Proofs.Ytkmccjjghpnejaa
open Go.RowKit

theorem own_pts {w : World} {base m : Nat} {v : Value} {xs : List Value} (h : w.ownsRow base 31 2 v m xs) (hx : ∀ u ∈ xs, ∃ z : Int, u = .int .i64 z) :
  ∃ (a : Option Addr) (c : Nat) (X Y : Nat → Int), v = .slice a m c ∧ m ≤ c ∧ Pts w a m X Y := by
 rcases h.2 with ⟨rfl, rfl⟩ | ⟨g, cap, cur, rfl, hb, hg, hc, _⟩
 ·exact ⟨none, 0, fun _ => 0, fun _ => 0, rfl, Nat.le_refl _, .inl rfl⟩
 ·have key : ∀ j, j < m * 2 → w.cell? ⟨g, j, none⟩ = some (.int .i64 (intOf (xs.getD j (.int .i64 0)))) := fun j hj => by
   have hl : j < xs.length := by rw [h.1]; exact hj
   obtain ⟨z, e⟩ := hx xs[j] (List.getElem_mem hl)
   have e2 : xs.getD j (.int .i64 0) = .int .i64 z := by simp [List.getD, hl, e]
   rw [h.cellAt j hj, List.getElem?_eq_getElem hl, e2, e]
   rfl
  refine ⟨some ⟨g, 0, none⟩, cap, fun i => intOf (xs.getD (i * 2) (.int .i64 0)), fun i => intOf (xs.getD (i * 2 + 1) (.int .i64 0)), rfl, hc, .inr ⟨g, 0, rfl, (h.lt g rfl).2, fun i hi => ⟨?_, ?_⟩⟩⟩
  ·rw [Nat.zero_add]; exact key _ (by omega)
  ·rw [Nat.zero_add]; exact key _ (by omega)

/-- All points can be. -/
def okA (m : Nat) (X Y : Nat → Int) : Bool := (List.range m).all fun i => pok (X i) (Y i)
theorem okA_yes {m : Nat} {X Y : Nat → Int} (h : ∀ i, i < m → pok (X i) (Y i) = true) : okA m X Y = true := by
 unfold okA; rw [List.all_eq_true]; exact fun i hi => h i (List.mem_range.1 hi)
theorem okA_no {m i : Nat} {X Y : Nat → Int} (hi : i < m) (h : pok (X i) (Y i) = false) : okA m X Y = false := by
 unfold okA; rw [List.all_eq_false]; exact ⟨i, List.mem_range.2 hi, by rw [h]; exact Bool.false_ne_true⟩
set_option maxHeartbeats 2000000 in
theorem allOk_any (a : Option Addr) (m c : Nat) (X Y : Nat → Int) (w : World) (hP : Pts w a m X Y) (hm : m ≤ 1048576) :
  Calls Try.prog 11 #[.slice a m c] w fun e w' => e = .returned (.bool (okA m X Y)) ∧ Bel w w' := by
 obtain ⟨R, HR⟩ : ∃ R, Hid (okA m X Y = R) := ⟨_, (rfl : okA m X Y = _)⟩
 rw [HR.out]
 go_enter Try.func11, Try.ntmps11
 go_wp2
 go_loopw [3] (fun i wr => ∃ k : Nat, k ≤ m ∧ i = .int .i64 k ∧ (∀ j, j < k → pok (X j) (Y j) = true) ∧ Bel w wr) (fun i _ => m - (intOf i).toNat)
 case atStart => exact ⟨0, by omega, rfl, (fun j hj => by omega), Bel.refl _⟩
 case round =>
  obtain ⟨k, hk, rfl, hA, hB⟩ := hrel
  have HA : Hid (∀ j, j < k → pok (X j) (Y j) = true) := hA
  clear hA
  by_cases hlt : k < m
  ·have hlt' : (k : Int) < (m : Int) := by omega
   rcases hP.bel hB with h | ⟨b, off, rfl, hb, hc⟩
   ·omega
   ·obtain ⟨c0, c1⟩ := hc k hlt
    clear hc
    go_wp2_with fail
    refine (pointOk_any (X k) (Y k) wr).mono ?_
    rintro e w1 ⟨rfl, g1⟩
    have B1 := bel_step hB g1
    by_cases h : pok (X k) (Y k) = true
    ·rw [h]
     go_wp2
     go_roundw
     case rel => exact ⟨k + 1, by omega, by go_num, (fun j hj => by by_cases e : j = k; (· subst e; exact h); (· exact HA.out j (by omega))), B1⟩
     case measure => simp [intOf]; omega
    ·have h : pok (X k) (Y k) = false := by simpa using h
     rw [h]
     have hR : R = false := HR.out.symm.trans (okA_no hlt h)
     subst hR
     go_wp2
     go_ret
     exact ⟨rfl, B1⟩
  ·have hge : ¬ (k : Int) < (m : Int) := by omega
   have hR : R = true := HR.out.symm.trans (okA_yes fun i hi => HA.out i (by omega))
   subst hR
   clear hP
   go_wp2
   go_ret
   exact ⟨rfl, hB⟩
end Go.Proofs.Ytkmccjjghpnejaa
