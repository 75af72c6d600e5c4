/-
  told: a time, or -1.
-/
import Derived.Test.YtakedciemnkfhaaGreatDoorGP
namespace Go.Proofs.YtakedciemnkfhaaGreatDoor
open Go.RowKit Go.Maps

theorem told_any (c : Cst) (w : World) : Calls Tryz.prog 102 #[cstV c] w fun e w' => e = .returned (.int .i64 (tldC c)) ∧ Bel w w' := by
 have hB := bel_alloc (Bel.refl w) (.cells #[.int .i64 c.t, .int .i64 c.c] 118)
 by_cases h : c.t = noT
 ·have HR : Hid (-1 = tldC c) := (by unfold tldC; rw [if_pos h] : -1 = tldC c)
  have hd : (c.t == 9223372036854775807) = true := by rw [beq_iff_eq]; exact h
  clear h
  go_enter Tryz.func102, Tryz.ntmps102
  go_wp2
  go_ret
  exact ⟨by rw [← HR.out]; rfl, hB⟩
 ·have HR : Hid (c.t = tldC c) := (by unfold tldC; rw [if_neg h] : c.t = tldC c)
  have hd : (c.t == 9223372036854775807) = false := by rw [beq_eq_false_iff_ne]; exact h
  clear h
  go_enter Tryz.func102, Tryz.ntmps102
  go_wp2
  go_ret
  exact ⟨by rw [← HR.out]; rfl, hB⟩
end Go.Proofs.YtakedciemnkfhaaGreatDoor
