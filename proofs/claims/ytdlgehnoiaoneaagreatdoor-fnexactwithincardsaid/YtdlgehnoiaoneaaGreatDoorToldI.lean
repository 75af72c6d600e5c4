/-
  told: a time, or -1.
-/
import Derived.Test.YtdlgehnoiaoneaaGreatDoorGP
namespace Go.Proofs.YtdlgehnoiaoneaaGreatDoor
open Go.RowKit Go.Maps

theorem timeTold_any (t : Int) (w : World) : Calls Tryz.prog 74 #[.int .i64 t] w fun e w' => e = .returned (.int .i64 (if t = noT then -1 else t)) ∧ w' = w := by
 by_cases h : t = noT
 ·have hd : (t == 9223372036854775807) = true := by rw [beq_iff_eq]; exact h
  have HR : Hid ((if t = noT then -1 else t) = -1) := if_pos h
  rw [HR.out]
  clear h HR
  go_enter Tryz.func74, Tryz.ntmps74
  go_wp2
  go_ret
  exact ⟨rfl, rfl⟩
 ·have hd : (t == 9223372036854775807) = false := by rw [beq_eq_false_iff_ne]; exact h
  have HR : Hid ((if t = noT then -1 else t) = t) := if_neg h
  rw [HR.out]
  clear h HR
  go_enter Tryz.func74, Tryz.ntmps74
  go_wp2
  go_ret
  exact ⟨rfl, rfl⟩
theorem told_any (c : Cst) (w : World) : Calls Tryz.prog 59 #[cstV c] w fun e w' => e = .returned (.int .i64 (tldC c)) ∧ Bel w w' := by
 have hB := bel_alloc (Bel.refl w) (.cells #[.int .i64 c.t, .int .i64 c.c] 112)
 have HR : Hid ((if c.t = noT then -1 else c.t) = tldC c) := (by unfold tldC; rfl : (if c.t = noT then -1 else c.t) = tldC c)
 have hcT := timeTold_any c.t
 rw [HR.out] at hcT
 go_enter Tryz.func59, Tryz.ntmps59
 go_wp2_with (go_at_call 74; refine (hcT _).mono ?_; rintro e w' ⟨rfl, rfl⟩)
 go_ret
 exact ⟨rfl, hB⟩
end Go.Proofs.YtdlgehnoiaoneaaGreatDoor
