/-
  What the model draws for Near: any row of points, and a point.
-/
import Derived.Test.YtkknbapcbcialaaDrawY
import Derived.Test.YtkknbapcbcialaaDrawT
import Derived.BigRegion
namespace Go.Proofs.Ytkknbapcbcialaa
open Go.RowKit

set_option maxRecDepth 100000 in
set_option maxHeartbeats 4000000 in
theorem drawNear_any (a : Option Addr) (n c : Nat) (w : World) (hS : Bts w a n) (hn : n ≤ 1048576) :
    Calls Try.prog 19 #[.slice a n c] w fun e w' => ∃ (v : Value) (m : Nat) (xs : List Value) (x y : Int), e = .returned (.tuple #[v, pt x y]) ∧ m ≤ 2001 ∧ w'.ownsRow w.heap.size 29 2 v m xs ∧ (∀ u ∈ xs, ∃ z : Int, u = .int .i64 z) ∧ Bel w w' := by
  obtain ⟨W, HW⟩ : ∃ W, Hid (W = w.alloc (.cells #[.int .i64 0, .int .i64 0] 29)) := ⟨_, (rfl : w.alloc (.cells #[.int .i64 0, .int .i64 0] 29) = _)⟩
  have hW : Bel w W := by rw [HW.out]; exact bel_alloc (Bel.refl _) _
  have Z0 : Pa W w.heap.size 0 0 := by rw [HW.out]; exact Pa.new w 0 0 _
  have hWs : w.heap.size < W.heap.size := by rw [HW.out]; simp
  have HS := hS.bel hW
  go_enter Try.func19, Try.ntmps19
  go_wp2_with fail
  rw [← HW.out]
  refine (l1New_any a n c W HS hn).mono ?_
  rintro e w1 ⟨rfl, hb1, k1⟩
  have hlt : W.heap.size < w1.heap.size := k1.lt
  go_wp2_with fail
  refine (drawAny_any _ a n c W w1 hb1 (Nat.le_refl _) k1 HS hn).mono ?_
  rintro e w2 ⟨v, m, xs, rfl, hm, hO, hX, d2⟩
  obtain ⟨va, vc, rfl⟩ := own_form hO
  go_wp2_with fail
  refine (drawPoint_any _ a n c W w2 d2.b (Nat.le_refl _) d2.k HS hn).mono ?_
  rintro e w3 ⟨x, y, rfl, d3⟩
  have hO := own_drawn hO d3 hlt
  have d3 := d2.then d3
  obtain ⟨V, HV⟩ : ∃ V, Hid (V = w3.alloc (.cells #[.int .i64 x, .int .i64 y] 29)) := ⟨_, (rfl : w3.alloc (.cells #[.int .i64 x, .int .i64 y] 29) = _)⟩
  have hbV : Bel w3 V := by rw [HV.out]; exact bel_alloc (Bel.refl _) _
  have Y0 : Pa V w3.heap.size x y := by rw [HV.out]; exact Pa.new w3 x y _
  have hOV : V.ownsRow w1.heap.size 29 2 (.slice va m vc) m xs := by rw [HV.out]; exact World.ownsRow.alloc hO _
  have Z3 := (Z0.bel d3.b).bel hbV
  have B3 := bel_step (bel_step hW d3.b) hbV
  have n1 : w3.heap.size ≠ w.heap.size := by have := d3.b.out.size; omega
  have n2 : w.heap.size ≠ w3.heap.size := fun e => n1 e.symm
  have z0 := Z3.c0
  have z1 := Z3.c1
  have f0 := Z3.fr 0
  have f1 := Z3.fr 1
  have y0 := Y0.c0
  have y1 := Y0.c1
  have HX : Hid (∀ u ∈ xs, ∃ z : Int, u = .int .i64 z) := hX
  obtain ⟨U, HU⟩ : ∃ U, Hid (U = (V.setCell ⟨w.heap.size, 0, none⟩ (.int .i64 x)).setCell ⟨w.heap.size, 1, none⟩ (.int .i64 y)) := ⟨_, (rfl : (V.setCell ⟨w.heap.size, 0, none⟩ (.int .i64 x)).setCell ⟨w.heap.size, 1, none⟩ (.int .i64 y) = _)⟩
  have ZU : Pa U w.heap.size x y := by rw [HU.out]; exact Z3.put x y
  have BU : Bel w U := by rw [HU.out]; exact bel_set (bel_set B3 (Nat.le_refl _) _) (Nat.le_refl _) _
  have HO : Hid (U.drew.ownsRow w.heap.size 29 2 (.slice va m vc) m xs) := by
    refine own_low (base := w1.heap.size) ?_ (by omega)
    obtain ⟨h1, h2⟩ := hOV
    refine ⟨h1, ?_⟩
    rcases h2 with h2 | ⟨g, cap, cur, e1, e2, e3, e4⟩
    · exact .inl h2
    · refine .inr ⟨g, cap, cur, e1, e2, ?_, e4⟩
      have hg : g ≠ w.heap.size := by omega
      show U.heap[g]? = _
      rw [HU.out, Below.heap_setCell _ _ _ _ hg, Below.heap_setCell _ _ _ _ hg]
      exact e3
  clear d2 d3 hb1 k1 Z0 HW hO hX Y0 Z3 hOV hbV
  go_wp2
  rw [← HV.out]
  go_big_region
  go_wp2
  rw [← HU.out]
  have u0 := (ZU.bel (Bel.drew (Bel.refl U))).c0
  have u1 := (ZU.bel (Bel.drew (Bel.refl U))).c1
  exact bodyPost_ret (v := .tuple #[.slice va m vc, pt x y]) (by simp [results, Try.results19, go_sem, u0, u1]) rfl ⟨_, m, _, _, _, rfl, hm, HO.out, HX.out, Bel.drew BU⟩
end Go.Proofs.Ytkknbapcbcialaa
