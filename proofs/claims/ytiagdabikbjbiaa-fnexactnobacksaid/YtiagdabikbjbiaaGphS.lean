/-
  Whether a graph can be, in the model: contract.
-/
import Derived.Test.YtiagdabikbjbiaaGphS1
import Derived.Test.YtiagdabikbjbiaaGphS2
import Derived.Test.YtiagdabikbjbiaaGphS3
namespace Go.Proofs.Ytiagdabikbjbiaa
open Go.RowKit Go.Maps

set_option maxRecDepth 100000 in
set_option maxHeartbeats 4000000 in
theorem specGraphOk_any (v : Value) (g : GraphD) (bs : List Nat) (w : World) (hV : GphV w v g bs) (hQ : GphQ g) :
    Calls Try.prog 22 #[v] w fun e w' => e = .returned (.bool (bP (graphP g))) ∧ Bel w w' := by
  by_cases hb : g.places.length ≤ 5000 ∧ g.roads.length ≤ 8000 ∧ g.bans.length ≤ 2000
  · by_cases hs : spotsP g.places
    · by_cases hr : roadsP g.places.length g.roads
      · exact specGraphOk_3 v g bs w hV hQ hb hs hr
      · exact specGraphOk_2 v g bs w hV hQ hb hs hr
    · exact specGraphOk_1 v g bs w hV hQ hb hs
  · obtain ⟨a0, c0, a1, c1, a2, c2, b0, b1, b2, _, rfl, t0, t1, t2⟩ := hV
    obtain ⟨m0, m1, m2⟩ := hQ
    obtain ⟨n0, H0⟩ : ∃ n, Hid (g.places.length = n) := ⟨_, (rfl : g.places.length = _)⟩
    obtain ⟨n1, H1⟩ : ∃ n, Hid (g.roads.length = n) := ⟨_, (rfl : g.roads.length = _)⟩
    obtain ⟨n2, H2⟩ : ∃ n, Hid (g.bans.length = n) := ⟨_, (rfl : g.bans.length = _)⟩
    rw [H0.out] at m0
    rw [H1.out] at m1
    rw [H2.out] at m2
    rw [H0.out, H1.out, H2.out]
    obtain ⟨W, HW⟩ : ∃ W, Hid (W = w.alloc (.cells #[.slice a0 n0 c0, .slice a1 n1 c1, .slice a2 n2 c2] 34)) := ⟨_, (rfl : w.alloc (.cells #[.slice a0 n0 c0, .slice a1 n1 c1, .slice a2 n2 c2] 34) = _)⟩
    have hB0 : Bel w W := by rw [HW.out]; exact bel_alloc (Bel.refl _) _
    have X0 : Blk W w.heap.size [.slice a0 n0 c0, .slice a1 n1 c1, .slice a2 n2 c2] := by rw [HW.out]; exact Blk.new w [.slice a0 n0 c0, .slice a1 n1 c1, .slice a2 n2 c2] _
    have hG : ∀ w', Bel W w' → w'.cell? ⟨w.heap.size, 0, none⟩ = some (.slice a0 n0 c0) ∧ w'.cell? ⟨w.heap.size, 1, none⟩ = some (.slice a1 n1 c1) ∧ w'.cell? ⟨w.heap.size, 2, none⟩ = some (.slice a2 n2 c2) ∧ w.heap.size < w'.heap.size := fun w' h =>
      ⟨(X0.bel h).cell 0 (by simp), (X0.bel h).cell 1 (by simp), (X0.bel h).cell 2 (by simp), (X0.bel h).lt⟩
    have T0 := t0.bel spotE hB0
    have T1 := t1.bel roadE hB0
    have T2 := t2.bel banE hB0
    clear t0 t1 t2 X0
    obtain ⟨y0, y1, y2, yl⟩ := hG W (Bel.refl _)
    rw [H0.out, H1.out, H2.out] at hb
    have HF : Hid (false = bP (graphP g)) := (bP_false fun h => hb ⟨by have := h.1.1; rw [H0.out] at this; exact this, by have := h.1.2.1; rw [H1.out] at this; exact this, by have := h.1.2.2; rw [H2.out] at this; exact this⟩).symm
    have hbig' : ¬ n0 ≤ 5000 ∨ (n0 ≤ 5000 ∧ ¬ n1 ≤ 8000) ∨ (n0 ≤ 5000 ∧ n1 ≤ 8000 ∧ ¬ n2 ≤ 2000) := by omega
    clear hb
    rcases hbig' with h | ⟨h, h'⟩ | ⟨h, h', h''⟩
    all_goals
      go_enter Try.func22, Try.ntmps22
      go_wp2
      all_goals first | (exfalso; omega) | (go_ret; exact ⟨ret_bl HF.out, by rw [← HW.out]; exact hB0⟩)
end Go.Proofs.Ytiagdabikbjbiaa

