/-
  Two bans in the model: contract.
-/
import Derived.Test.YtiagdabikbjbiaaGphP
namespace Go.Proofs.Ytiagdabikbjbiaa
open Go.RowKit Go.Maps

theorem banLess_any (a b : BanD) (w : World) :
    Calls Try.prog 50 #[.agg #[.int .i64 a.fr, .int .i64 a.to], .agg #[.int .i64 b.fr, .int .i64 b.to]] w fun e w' => e = .returned (.bool (bP (banLt a b))) ∧ Bel w w' := by
  have hB : Bel w ((w.alloc (.cells #[.int .i64 a.fr, .int .i64 a.to] 75)).alloc (.cells #[.int .i64 b.fr, .int .i64 b.to] 75)) := bel_alloc (bel_alloc (Bel.refl _) _) _
  by_cases h1 : a.fr < b.fr
  · have HR : Hid (true = bP (banLt a b)) := (bP_true (.inl h1)).symm
    go_enter Try.func50, Try.ntmps50
    go_wp2
    go_ret
    exact ⟨ret_bl HR.out, hB⟩
  · by_cases h2 : a.fr = b.fr
    · by_cases h3 : a.to < b.to
      · have HR : Hid (true = bP (banLt a b)) := (bP_true (.inr ⟨h2, h3⟩)).symm
        have h4 : (a.fr == b.fr) = true := by simp [h2]
        clear h2
        go_enter Try.func50, Try.ntmps50
        go_wp2
        go_ret
        first | exact ⟨ret_bl HR.out, hB⟩ | exact ⟨ret_bl (by rw [← HR.out]; simp; omega), hB⟩
      · have HR : Hid (false = bP (banLt a b)) := (bP_false fun h => h.elim h1 fun h => h3 h.2).symm
        have h4 : (a.fr == b.fr) = true := by simp [h2]
        clear h2
        go_enter Try.func50, Try.ntmps50
        go_wp2
        go_ret
        first | exact ⟨ret_bl HR.out, hB⟩ | exact ⟨ret_bl (by rw [← HR.out]; simp; omega), hB⟩
    · have HR : Hid (false = bP (banLt a b)) := (bP_false fun h => h.elim h1 fun h => h2 h.1).symm
      have h4 : (a.fr == b.fr) = false := by simp [h2]
      clear h2
      go_enter Try.func50, Try.ntmps50
      go_wp2
      go_ret
      exact ⟨ret_bl HR.out, hB⟩

end Go.Proofs.Ytiagdabikbjbiaa

