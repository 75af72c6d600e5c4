/-
  Contracts of TilesOf, in the program and in its model: for every box and every zoom.
-/
import Derived.Test.YtldfcnlhjjiihaaGreatCD
import Derived.Deep.AppendLies
namespace Go.Proofs.YtldfcnlhjjiihaaGreat
open Go.RowKit Go.Maps

theorem ordered_any (q : BoxD) (w : World) :
  Calls Tryz.prog 96 #[bxv q] w fun e w' => e = .returned (.bool (decide (q.a ≤ q.c) && decide (q.b ≤ q.d))) ∧ Bel w w' := by
 have hB : Bel w (w.alloc (.cells #[.int .i64 q.a, .int .i64 q.b, .int .i64 q.c, .int .i64 q.d] 63)) := bel_alloc (Bel.refl _) _
 obtain ⟨r, Hr⟩ : ∃ r, Hid ((decide (q.a ≤ q.c) && decide (q.b ≤ q.d)) = r) := ⟨_, (rfl : (decide (q.a ≤ q.c) && decide (q.b ≤ q.d)) = _)⟩
 rw [Hr.out]
 by_cases h1 : q.a ≤ q.c <;> by_cases h2 : q.b ≤ q.d <;> (
  go_enter Tryz.func96, Tryz.ntmps96
  go_wp2
  go_ret
  exact ⟨ret_bl (by rw [← Hr.out]; simp [h1, h2]), hB⟩)

end Go.Proofs.YtldfcnlhjjiihaaGreat
