/-
  cmp.Compare at numbers, cmp.Or of two; worlds that have grown: contracts.
-/
import Derived.Test.YtkmccjjghpnejaaGB
import Derived.Sort.Grow
import Derived.Deep.RegionHeld3
import Derived.Deep.LoopGhost
namespace Go.Proofs.Ytkmccjjghpnejaa
open Go.RowKit Go.Sort

/-- -1, 0, 1: below, the same, above. -/
def cpz (x y : Int) : Int := if x < y then -1 else if y < x then 1 else 0
def orz (a b : Int) : Int := if a = 0 then b else a

/-- Some draws, some blocks more. -/
def Gw (w w' : World) : Prop := ∃ (q : Nat) (os : Array Obj), w' = grow (w.drewN q) os
theorem Gw.refl (w : World) : Gw w w := ⟨0, #[], by rw [grow_empty]; rfl⟩
theorem Gw.drew {w a : World} (h : Gw w a) : Gw w a.drew := by
 obtain ⟨q, os, rfl⟩ := h
 exact ⟨q + 1, os, rfl⟩
theorem Gw.alloc {w a : World} (h : Gw w a) (o : Obj) : Gw w (a.alloc o) := by
 obtain ⟨q, os, rfl⟩ := h
 exact ⟨q, os ++ #[o], by rw [alloc_eq_grow, grow_grow]⟩
theorem drewN_grow (w : World) (os : Array Obj) (n : Nat) : (grow w os).drewN n = grow (w.drewN n) os := rfl
theorem Gw.step {w a b : World} (h : Gw w a) (k : Gw a b) : Gw w b := by
 obtain ⟨q, os, rfl⟩ := h
 obtain ⟨q', os', rfl⟩ := k
 exact ⟨q + q', os ++ os', by rw [drewN_grow, grow_grow, World.drewN_drewN]⟩
theorem gw_then {w a b : World} (k : Gw a b) (h : Gw w a) : Gw w b := h.step k
theorem bel_grows (w : World) (os : Array Obj) : Bel w (grow w os) :=
 ⟨rfl, rfl, rfl, by simp [grow], fun k hk => by simp [grow, Array.getElem?_append_left hk]⟩
theorem Gw.bel {w a : World} (h : Gw w a) : Bel w a := by
 obtain ⟨q, os, rfl⟩ := h
 exact bel_step (bel_drewN (Bel.refl w) q) (bel_grows _ os)

/-- How far cmp.Or has come. -/
def OrP (k : Nat) (a b : Int) : Prop := (1 ≤ k → a = 0) ∧ (2 ≤ k → b = 0)
end Go.Proofs.Ytkmccjjghpnejaa
