/-
  What the model draws for Simplify: any row of points, and a number.
-/
import Derived.Test.YtkknbapcbcialaaDrawY
namespace Go.Proofs.Ytkknbapcbcialaa
open Go.RowKit

set_option maxRecDepth 100000 in
set_option maxHeartbeats 4000000 in
theorem drawSimplify_any (a : Option Addr) (n c : Nat) (w : World) (hS : Bts w a n) (hn : n ≤ 1048576) :
    Calls Try.prog 9 #[.slice a n c] w fun e w' => ∃ (v : Value) (m : Nat) (xs : List Value) (q : Int), e = .returned (.tuple #[v, .int .i64 q]) ∧ m ≤ 2001 ∧ (-1 ≤ q ∧ q < 4000000) ∧ w'.ownsRow w.heap.size 29 2 v m xs ∧ (∀ u ∈ xs, ∃ z : Int, u = .int .i64 z) ∧ Bel w w' := by
  go_enter Try.func9, Try.ntmps9
  go_wp2_with fail
  refine (l1New_any a n c w hS hn).mono ?_
  rintro e w1 ⟨rfl, hb1, k1⟩
  have hlt : w.heap.size < w1.heap.size := k1.lt
  go_wp2_with fail
  refine (drawAny_any _ a n c w w1 hb1 (Nat.le_refl _) k1 hS hn).mono ?_
  rintro e w2 ⟨v, m, xs, rfl, hm, hO, hX, d2⟩
  obtain ⟨va, vc, rfl⟩ := own_form hO
  go_wp2_with fail
  refine (below_any _ a n c w w2 d2.b (Nat.le_refl _) d2.k hS hn 20 (by decide) (by decide)).mono ?_
  rintro e w3 ⟨t, rfl, ⟨t0, t1⟩, d3⟩
  have hO := own_drawn hO d3 hlt
  have d3 := d2.then d3
  clear d2
  go_wp2_with fail
  refine (once_any _ a n c w w3 d3.b (Nat.le_refl _) d3.k hS hn 3 (by decide) (by decide)).mono ?_
  rintro e w4 ⟨s, rfl, d4⟩
  have hO := own_drawn hO d4 hlt
  have d4 := d3.then d4
  clear d3
  cases s
  · have HO : Hid (w4.ownsRow w.heap.size 29 2 (.slice va m vc) m xs) := own_low hO (Nat.le_of_lt hlt)
    have HX : Hid (∀ u ∈ xs, ∃ z : Int, u = .int .i64 z) := hX
    have B4 := d4.b
    clear hO hX d4 k1 hb1
    go_wp2
    exact bodyPost_ret (v := .tuple #[.slice va m vc, .int .i64 (t - 1)]) (by simp [results, Try.results9, go_sem]) rfl ⟨_, m, _, _, rfl, hm, ⟨by omega, by omega⟩, HO.out, HX.out, B4⟩
  · go_wp2_with fail
    refine (below_any _ a n c w w4 d4.b (Nat.le_refl _) d4.k hS hn 4000000 (by decide) (by decide)).mono ?_
    rintro e w5 ⟨u, rfl, ⟨u0, u1⟩, d5⟩
    have HO : Hid (w5.ownsRow w.heap.size 29 2 (.slice va m vc) m xs) := own_low (own_drawn hO d5 hlt) (Nat.le_of_lt hlt)
    have HX : Hid (∀ u ∈ xs, ∃ z : Int, u = .int .i64 z) := hX
    have B5 := (d4.then d5).b
    clear hO hX d4 d5 k1 hb1
    go_wp2
    exact bodyPost_ret (v := .tuple #[.slice va m vc, .int .i64 u]) (by simp [results, Try.results9, go_sem]) rfl ⟨_, m, _, _, rfl, hm, ⟨by omega, by omega⟩, HO.out, HX.out, B5⟩
end Go.Proofs.Ytkknbapcbcialaa
