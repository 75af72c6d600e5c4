/-
  cmp.Compare at numbers, cmp.Or of two; worlds that have grown: contracts.
-/
import Derived.Test.YtgakdeaniojleaaMem
import Derived.Sort.Grow
import Derived.Deep.RegionHeld3
import Derived.Deep.LoopGhost
namespace Go.Proofs.Ytgakdeaniojleaa
open Go.RowKit Go.Sort

/-- -1, 0, 1: below, the same, above. -/
def cpz (x y : Int) : Int := if x < y then -1 else if y < x then 1 else 0
def orz (a b : Int) : Int := if a = 0 then b else a

/-- Some draws, some blocks more. -/
def Gw (w w' : World) : Prop := ∃ (q : Nat) (os : Array Obj), w' = grow (w.drewN q) os
theorem Gw.refl (w : World) : Gw w w := ⟨0, #[], by rw [grow_empty]; rfl⟩
theorem Gw.drew {w a : World} (h : Gw w a) : Gw w a.drew := by
  obtain ⟨q, os, rfl⟩ := h
  exact ⟨q + 1, os, rfl⟩
theorem Gw.alloc {w a : World} (h : Gw w a) (o : Obj) : Gw w (a.alloc o) := by
  obtain ⟨q, os, rfl⟩ := h
  exact ⟨q, os ++ #[o], by rw [alloc_eq_grow, grow_grow]⟩
theorem drewN_grow (w : World) (os : Array Obj) (n : Nat) : (grow w os).drewN n = grow (w.drewN n) os := rfl
theorem Gw.step {w a b : World} (h : Gw w a) (k : Gw a b) : Gw w b := by
  obtain ⟨q, os, rfl⟩ := h
  obtain ⟨q', os', rfl⟩ := k
  exact ⟨q + q', os ++ os', by rw [drewN_grow, grow_grow, World.drewN_drewN]⟩
theorem gw_then {w a b : World} (k : Gw a b) (h : Gw w a) : Gw w b := h.step k
theorem bel_grows (w : World) (os : Array Obj) : Bel w (grow w os) :=
  ⟨rfl, rfl, rfl, by simp [grow], fun k hk => by simp [grow, Array.getElem?_append_left hk]⟩
theorem Gw.bel {w a : World} (h : Gw w a) : Bel w a := by
  obtain ⟨q, os, rfl⟩ := h
  exact bel_step (bel_drewN (Bel.refl w) q) (bel_grows _ os)

theorem isNaN64_any (x : Int) (w : World) : Calls Try.prog 56 #[.int .i64 x] w fun e w' => e = .returned (.bool false) ∧ w' = w := by
  go_enter Try.func56, Try.ntmps56
  go_wp2
  go_ret
  exact ⟨by simp, rfl⟩
set_option maxHeartbeats 1000000 in
theorem compare64_any (x y : Int) (w : World) : Calls Try.prog 55 #[.int .i64 x, .int .i64 y] w fun e w' => e = .returned (.int .i64 (cpz x y)) ∧ w' = w := by
  by_cases h1 : x < y
  · have HZ : Hid (cpz x y = -1) := if_pos h1
    go_enter Try.func55, Try.ntmps55
    go_wp2_with (first | (go_at_call 56; refine (isNaN64_any _ _).mono ?_; rintro e w' ⟨rfl, rfl⟩))
    go_ret
    exact ⟨by rw [HZ.out]; rfl, rfl⟩
  · by_cases h2 : y < x
    · have HZ : Hid (cpz x y = 1) := (by unfold cpz; rw [if_neg h1, if_pos h2] : cpz x y = 1)
      go_enter Try.func55, Try.ntmps55
      go_wp2_with (first | (go_at_call 56; refine (isNaN64_any _ _).mono ?_; rintro e w' ⟨rfl, rfl⟩))
      go_ret
      exact ⟨by rw [HZ.out]; rfl, rfl⟩
    · have HZ : Hid (cpz x y = 0) := (by unfold cpz; rw [if_neg h1, if_neg h2] : cpz x y = 0)
      go_enter Try.func55, Try.ntmps55
      go_wp2_with (first | (go_at_call 56; refine (isNaN64_any _ _).mono ?_; rintro e w' ⟨rfl, rfl⟩))
      go_ret
      exact ⟨by rw [HZ.out]; rfl, rfl⟩
/-- How far cmp.Or has come. -/
def OrP (k : Nat) (a b : Int) : Prop := (1 ≤ k → a = 0) ∧ (2 ≤ k → b = 0)
set_option maxHeartbeats 1000000 in
theorem or2_any (B : Nat) (a b : Int) (w : World) (h0 : w.cell? ⟨B, 0, none⟩ = some (.int .i64 a)) (h1 : w.cell? ⟨B, 1, none⟩ = some (.int .i64 b)) :
    Calls Try.prog 54 #[.slice (some ⟨B, 0, none⟩) 2 2] w fun e w' => e = .returned (.int .i64 (orz a b)) ∧ w' = w := by
  go_enter Try.func54, Try.ntmps54
  go_wp2
  go_loopw [5, 8] (fun _ i wr => ∃ k : Nat, k ≤ 2 ∧ i = .int .i64 k ∧ Hid (OrP k a b) ∧ wr = w) (fun _ i _ => 2 - (intOf i).toNat)
  case atStart => exact ⟨0, by omega, rfl, (⟨fun h => by omega, fun h => by omega⟩ : OrP 0 a b), rfl⟩
  case round =>
    obtain ⟨k, hk, rfl, HK, rfl⟩ := hrel
    match k, hk, HK with
    | 0, _, HK =>
      by_cases ha : a = 0
      · subst ha
        have HK1 : Hid (OrP 1 0 b) := ⟨fun _ => rfl, fun h => by omega⟩
        go_wp2
        go_roundw
        case rel => exact ⟨1, by omega, by go_num, HK1, trivial⟩
        case measure => simp [intOf]
      · have HR : Hid (orz a b = a) := if_neg ha
        have hne : (a != 0) = true := by simp [ha]
        have hne' : (a == 0) = false := by simp [ha]
        go_wp2
        go_ret
        exact ⟨ret_num HR.out.symm, rfl⟩
    | 1, _, HK =>
      have ha : a = 0 := HK.out.1 (by omega)
      by_cases hb : b = 0
      · subst hb
        have HK1 : Hid (OrP 2 a 0) := ⟨fun _ => ha, fun _ => rfl⟩
        clear ha
        go_wp2
        go_roundw
        case rel => exact ⟨2, by omega, by go_num, HK1, trivial⟩
        case measure => simp [intOf]
      · have HR : Hid (orz a b = b) := if_pos ha
        have hne : (b != 0) = true := by simp [hb]
        have hne' : (b == 0) = false := by simp [hb]
        clear ha
        go_wp2
        go_ret
        exact ⟨ret_num HR.out.symm, rfl⟩
    | 2, _, HK =>
      have HR : Hid (orz a b = 0) := by
        have h1 := HK.out.1 (by omega)
        have h2 := HK.out.2 (by omega)
        unfold orz; rw [if_pos h1]; exact h2
      go_wp2
      go_ret
      exact ⟨ret_num HR.out.symm, rfl⟩
end Go.Proofs.Ytgakdeaniojleaa
