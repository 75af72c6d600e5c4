/-
  What the model draws for rings: rows of points of its own.
  Rings that are drawn, one behind the other: how the row of them grows, and how it is read.
  What the model draws for rings: any rings.
  What the model draws for Inside and for Nesting: any rings, any point.
-/
import Derived.Test.YtkpgcnfokohhiaaDrawP
import Derived.Test.YtkpgcnfokohhiaaOrnC
import Derived.Test.YtkpgcnfokohhiaaRngM
import Derived.Deep.AppendLies
import Derived.Deep.RegionHeld3
import Derived.Test.YtkpgcnfokohhiaaRngD
import Derived.Test.YtkpgcnfokohhiaaOrnE
namespace Go.Proofs.Ytkpgcnfokohhiaa
open Go.RowKit

theorem mulK_bd {K d : Int} (h0 : 0 ≤ K) (h1 : K ≤ 160) (d0 : -10 ≤ d) (d1 : d ≤ 10) : ∃ P, K * d = P ∧ -1600 ≤ P ∧ P ≤ 1600 := by
  refine ⟨_, rfl, ?_, ?_⟩
  · have : K * (-10) ≤ K * d := Int.mul_le_mul_of_nonneg_left d0 h0
    omega
  · have : K * d ≤ K * 10 := Int.mul_le_mul_of_nonneg_left d1 h0
    omega
theorem tdiv_bd (P : Int) (h0 : -1600 ≤ P) (h1 : P ≤ 1600) : ∃ Q, Int.tdiv P 10 = Q ∧ -1600 ≤ Q ∧ Q ≤ 1600 := by
  refine ⟨_, rfl, ?_⟩
  by_cases h : 0 ≤ P
  · rw [Int.tdiv_eq_ediv_of_nonneg h]; omega
  · have e : Int.tdiv P 10 = -(Int.tdiv (-P) 10) := by rw [Int.neg_tdiv, Int.neg_neg]
    rw [e, Int.tdiv_eq_ediv_of_nonneg (by omega)]; omega
theorem ints_add {xs : List Value} {p q : Int} (h : ∀ u ∈ xs, ∃ z : Int, u = .int .i64 z ∧ In64 z) (h0 : -9223372036854775808 ≤ p) (h1 : p ≤ 9223372036854775807) (h2 : -9223372036854775808 ≤ q) (h3 : q ≤ 9223372036854775807) : ∀ u ∈ xs ++ [Value.int .i64 p, .int .i64 q], ∃ z : Int, u = .int .i64 z ∧ In64 z := fun u hu => by
  rcases List.mem_append.1 hu with hh | hh
  · exact h u hh
  · simp at hh
    rcases hh with rfl | rfl
    · exact ⟨_, rfl, h0, h1⟩
    · exact ⟨_, rfl, h2, h3⟩
/-- A row of its own as a row of points. -/
theorem own_ptl {w : World} {base m : Nat} {v : Value} {xs : List Value} (h : w.ownsRow base 26 2 v m xs) (hx : ∀ u ∈ xs, ∃ z : Int, u = .int .i64 z ∧ In64 z) :
    ∃ (a : Option Addr) (c : Nat) (l : List PtD) (bs : List Nat), v = .slice a m c ∧ m ≤ c ∧ l.length = m ∧ PtL w a l bs ∧ ∀ x ∈ bs, base ≤ x ∧ x < w.heap.size := by
  rcases h.2 with ⟨rfl, rfl⟩ | ⟨g, cap, cur, rfl, hb, hg, hc, _⟩
  · exact ⟨none, 0, [], [], rfl, Nat.le_refl _, rfl, .inl ⟨rfl, rfl⟩, by simp⟩
  · have key : ∀ j, j < m * 2 → w.cell? ⟨g, j, none⟩ = some (.int .i64 (intOf (xs.getD j (.int .i64 0)))) ∧ In64 (intOf (xs.getD j (.int .i64 0))) := fun j hj => by
      have hl : j < xs.length := by rw [h.1]; exact hj
      obtain ⟨z, e, iz⟩ := hx xs[j] (List.getElem_mem hl)
      have e2 : xs.getD j (.int .i64 0) = .int .i64 z := by simp [List.getD, hl, e]
      rw [h.cellAt j hj, List.getElem?_eq_getElem hl, e2, e]
      exact ⟨rfl, iz⟩
    refine ⟨some ⟨g, 0, none⟩, cap, (List.range m).map fun i => ⟨intOf (xs.getD (i * 2) (.int .i64 0)), intOf (xs.getD (i * 2 + 1) (.int .i64 0))⟩, _, rfl, hc, by simp, .inr ⟨g, 0, fun _ => [], rfl, (h.lt g rfl).2, rfl, fun i hi => ?_⟩, fun x hx => ?_⟩
    · simp only [List.length_map, List.length_range] at hi
      simp only [List.getElem_map, List.getElem_range, Nat.zero_add]
      exact ⟨rfl, (key (i * 2) (by omega)).2, (key (i * 2 + 1) (by omega)).2, (key (i * 2) (by omega)).1, (key (i * 2 + 1) (by omega)).1⟩
    · simp at hx
      subst hx
      exact h.lt _ rfl

theorem Drawn.drwR {w0 w : World} {B : Nat} {a : Option Addr} {n c : Nat} {v : World} (h : Drawn w0 w B a n c v) : Drawn w0 w B a n c v.drew := h.bel (Bel.drew (Bel.refl _))
theorem Drawn.alcR {w0 w : World} {B : Nat} {a : Option Addr} {n c : Nat} {v : World} (h : Drawn w0 w B a n c v) (o : Obj) : Drawn w0 w B a n c (v.alloc o) := h.bel (bel_alloc (Bel.refl _) _)

set_option maxRecDepth 100000 in
set_option maxHeartbeats 4000000 in
theorem drawRing_any (B : Nat) (a : Option Addr) (n c : Nat) (w0 w : World) (hb : Bel w0 w) (hB : w0.heap.size ≤ B) (hC : Cur w B a n c) (hS : Bts w0 a n) (hn : n ≤ 1048576) (x y r : Int) (hx0 : 0 ≤ x) (hx1 : x ≤ 80) (hy0 : 0 ≤ y) (hy1 : y ≤ 80) (hr0 : 1 ≤ r) (hr1 : r ≤ 80) :
    Calls Try.prog 27 #[.pointer (some ⟨B, 0, none⟩), .int .i64 x, .int .i64 y, .int .i64 r] w fun e w' => ∃ (a' : Option Addr) (c' : Nat) (l : List PtD) (bs : List Nat), e = .returned (.slice a' l.length c') ∧ l.length ≤ 9 ∧ PtL w' a' l bs ∧ (∀ x ∈ bs, w.heap.size ≤ x) ∧ Drawn w0 w B a n c w' := by
  obtain ⟨i0, hi0, hz0, hz1, hz2⟩ := infoX_parts
  obtain ⟨W, HW⟩ : ∃ W, Hid (W = (w.alloc (.cells #[.int .i64 10, .int .i64 7, .int .i64 0, .int .i64 (-7), .int .i64 (-10), .int .i64 (-7), .int .i64 0, .int .i64 7] 2)).alloc (.cells #[.int .i64 0, .int .i64 7, .int .i64 10, .int .i64 7, .int .i64 0, .int .i64 (-7), .int .i64 (-10), .int .i64 (-7)] 2)) := ⟨_, (rfl : (w.alloc (.cells #[.int .i64 10, .int .i64 7, .int .i64 0, .int .i64 (-7), .int .i64 (-10), .int .i64 (-7), .int .i64 0, .int .i64 7] 2)).alloc (.cells #[.int .i64 0, .int .i64 7, .int .i64 10, .int .i64 7, .int .i64 0, .int .i64 (-7), .int .i64 (-10), .int .i64 (-7)] 2) = _)⟩
  have hBW' : Bel w W := by rw [HW.out]; exact bel_alloc (bel_alloc (Bel.refl _) _) _
  have HWs : Hid (W.heap.size = w.heap.size + 2) := (by rw [HW.out]; simp : W.heap.size = w.heap.size + 2)
  have XA : Blk W w.heap.size [.int .i64 10, .int .i64 7, .int .i64 0, .int .i64 (-7), .int .i64 (-10), .int .i64 (-7), .int .i64 0, .int .i64 7] := by rw [HW.out]; exact (Blk.new w [.int .i64 10, .int .i64 7, .int .i64 0, .int .i64 (-7), .int .i64 (-10), .int .i64 (-7), .int .i64 0, .int .i64 7] _).bel (bel_alloc (Bel.refl _) _)
  have XB : Blk W (w.heap.size + 1) [.int .i64 0, .int .i64 7, .int .i64 10, .int .i64 7, .int .i64 0, .int .i64 (-7), .int .i64 (-10), .int .i64 (-7)] := by rw [HW.out]; exact Blk.new1 w _ [.int .i64 0, .int .i64 7, .int .i64 10, .int .i64 7, .int .i64 0, .int .i64 (-7), .int .i64 (-10), .int .i64 (-7)] _
  have hlt : B < w.heap.size := hC.lt
  have hXl : w.heap.size < W.heap.size := XA.lt
  have hYl : w.heap.size + 1 < W.heap.size := XB.lt
  have hXB : w.heap.size ≠ B := by omega
  have hYB : w.heap.size + 1 ≠ B := by omega
  have hBW : B < W.heap.size := by omega
  have hWl : w0.heap.size ≤ W.heap.size := by have := hb.out.size; omega
  have HXc : Hid (∀ i, i < 8 → ∃ d : Int, (-10 ≤ d ∧ d ≤ 10) ∧ W.cell? ⟨w.heap.size, i, none⟩ = some (.int .i64 d)) := fun i hi => by
    rcases (show i = 0 ∨ i = 1 ∨ i = 2 ∨ i = 3 ∨ i = 4 ∨ i = 5 ∨ i = 6 ∨ i = 7 by omega) with rfl | rfl | rfl | rfl | rfl | rfl | rfl | rfl
    all_goals exact ⟨_, ⟨by decide, by decide⟩, XA.cell _ (by simp)⟩
  have HYc : Hid (∀ i, i < 8 → ∃ d : Int, (-10 ≤ d ∧ d ≤ 10) ∧ W.cell? ⟨w.heap.size + 1, i, none⟩ = some (.int .i64 d)) := fun i hi => by
    rcases (show i = 0 ∨ i = 1 ∨ i = 2 ∨ i = 3 ∨ i = 4 ∨ i = 5 ∨ i = 6 ∨ i = 7 by omega) with rfl | rfl | rfl | rfl | rfl | rfl | rfl | rfl
    all_goals exact ⟨_, ⟨by decide, by decide⟩, XB.cell _ (by simp)⟩
  have D1 : Drawn w0 W B a n c (W.alloc (.cells #[] 26)) := Drawn.bel ⟨bel_step hb hBW', OnlyB.refl _ _, hC.bel hBW'⟩ (bel_alloc (Bel.refl _) _)
  have O1 : (W.alloc (.cells #[] 26)).ownsRow W.heap.size 26 2 (.slice (some ⟨w.heap.size + 1 + 1, 0, none⟩) 0 0) 0 [] := by
    have h : (W.alloc (.cells #[] 26)).ownsRow W.heap.size 26 2 (.slice (some ⟨W.heap.size, 0, none⟩) 0 0) 0 [] := World.ownsRow_lit W #[] 0 (Nat.le_refl _) (Nat.zero_le _) rfl
    rwa [show (⟨W.heap.size, 0, none⟩ : Addr) = ⟨w.heap.size + 1 + 1, 0, none⟩ from by rw [HWs.out]] at h
  clear XA XB hb hC
  go_enter Try.func27, Try.ntmps27
  go_wp2
  rw [← HW.out]
  go_loopw [11, 12, 13] (fun o ix _ wr => ∃ (i k : Nat) (xs : List Value), i ≤ 8 ∧ k ≤ i ∧ ix = .int .i64 i ∧ wr.ownsRow W.heap.size 26 2 o k xs ∧ (∀ u ∈ xs, ∃ z : Int, u = .int .i64 z ∧ In64 z) ∧ Drawn w0 W B a n c wr) (fun _ ix _ _ => 8 - (intOf ix).toNat)
  case atStart => exact ⟨0, 0, [], by omega, by omega, rfl, O1, (fun u hu => by cases hu), D1⟩
  case round =>
    clear D1 O1
    obtain ⟨i, k, xs, hi, hk, rfl, hO, hX, hD⟩ := hrel
    have HX : Hid (∀ u ∈ xs, ∃ z : Int, u = .int .i64 z ∧ In64 z) := hX
    clear hX
    obtain ⟨va, vc, rfl⟩ := own_form hO
    by_cases hlt8 : i < 8
    · have hlt' : (i : Int) < 8 := by omega
      obtain ⟨d, ⟨hd0, hd1⟩, hcx⟩ := HXc.out i hlt8
      obtain ⟨f, ⟨hf0, hf1⟩, hcy⟩ := HYc.out i hlt8
      by_cases h3 : (k : Int) < 3
      · have h3b : decide ((k : Int) < 3) = true := by simp [h3]
        by_cases h4 : (4 : Int) < i
        · have h4b : decide ((4 : Int) < i) = true := by simp only [h4, decide_true]
          go_wp2_with fail
          refine (below_any B a n c w0 _ hD.b hB hD.k hS hn r (by omega) (by omega)).mono ?_
          rintro e w5 ⟨t, rfl, ⟨t0, t1⟩, d5⟩
          obtain ⟨P, hPd, hP0, hP1⟩ : ∃ P, (r + t) * d = P ∧ -1600 ≤ P ∧ P ≤ 1600 := mulK_bd (by omega) (by omega) hd0 hd1
          obtain ⟨P', hPe, hP0', hP1'⟩ : ∃ P, (r + t) * f = P ∧ -1600 ≤ P ∧ P ≤ 1600 := mulK_bd (by omega) (by omega) hf0 hf1
          obtain ⟨Q, hQd, hQ0, hQ1⟩ := tdiv_bd P hP0 hP1
          obtain ⟨Q', hQe, hQ0', hQ1'⟩ := tdiv_bd P' hP0' hP1'
          have hw1 : IntKind.i64.wrap P = P := by rw [IntKind.wrap_i64]; omega
          have hw2 : IntKind.i64.wrap P' = P' := by rw [IntKind.wrap_i64]; omega
          have hw3 : IntKind.i64.wrap Q = Q := by rw [IntKind.wrap_i64]; omega
          have hw4 : IntKind.i64.wrap Q' = Q' := by rw [IntKind.wrap_i64]; omega
          have hw5 : IntKind.i64.wrap (x + Q) = x + Q := by rw [IntKind.wrap_i64]; omega
          have hw6 : IntKind.i64.wrap (y + Q') = y + Q' := by rw [IntKind.wrap_i64]; omega
          have D5 : Drawn w0 W B a n c w5 := hD.then d5
          have HO5 : Hid (w5.ownsRow W.heap.size 26 2 (.slice va k vc) k xs) := own_drawn hO d5 hBW
          have hs5 : W.heap.size ≤ w5.heap.size := D5.o.size
          have hcc : ∀ w', Drawn w0 W B a n c w' → w'.cell? ⟨w.heap.size, i, none⟩ = some (.int .i64 d) ∧ w'.cell? ⟨w.heap.size + 1, i, none⟩ = some (.int .i64 f) := fun w' h => ⟨(h.o.cell _ _ hXl hXB).trans hcx, (h.o.cell _ _ hYl hYB).trans hcy⟩
          clear d5
          go_upto_region 9 with fail
          go_region_held3 (fun w' => Drawn w0 W B a n c w') (with_reducible (repeat (first | assumption | refine Drawn.drwR ?_ | refine Drawn.alcR ?_ _)))
            ((refine step_append_lies _ (by rfl) _ _ _ (by rfl) W.heap.size 26 i0 _ 2 16 Try.underlying30 hi0 hz0 hz1 hz2 rfl (by decide) (.slice va k vc) k xs (by rfl) (own_bel HO5.out (by with_reducible (repeat (first | exact Bel.refl _ | refine Bel.drew ?_ | refine bel_alloc ?_ _)))) ⟨w5.heap.size, 0, none⟩ 1 1 [.int .i64 (x + Q), .int .i64 (y + Q')] (by rfl) (by rfl) (World.news_of_block (cs := #[.int .i64 (x + Q), .int .i64 (y + Q')]) (t := 26) (fr := (0, 0)) (heap_alloc_new _ _)) (by simp [Value.oneCell']) (by omega) (by unfold maxLen; omega) (by omega) (by simp; omega) (w5.heap.size + 1) (by simp) ?_; intro g cap w6 hown hgrow _ _; refine (fun hk6 : Drawn w0 W B a n c w6 => ?_) (Drawn.grown (by assumption) hgrow hWl hBW (fun q e => (HO5.out.lt q e).1))))
          have HD6 : Hid (Drawn w0 W B a n c w6) := by assumption
          have HO6 : Hid (w6.ownsRow W.heap.size 26 2 (.slice (some ⟨g, 0, none⟩) (k + 1) cap) (k + 1) (xs ++ [.int .i64 (x + Q), .int .i64 (y + Q')])) := hown
          have HX6 : Hid (∀ u ∈ xs ++ [Value.int .i64 (x + Q), .int .i64 (y + Q')], ∃ z : Int, u = .int .i64 z ∧ In64 z) := ints_add HX.out (by omega) (by omega) (by omega) (by omega)
          clear hown hgrow hcc hw1 hw2 hw3 hw4 hw5 hw6 hPd hPe hQd hQe
          go_wp2
          go_roundw
          case rel => exact ⟨i + 1, k + 1, _, by omega, by omega, by go_num, HO6.out, HX6.out, HD6.out⟩
          case measure => simp [intOf]; omega
        · have h4b : decide ((4 : Int) < i) = false := by simp only [h4, decide_false]
          go_wp2_with fail
          refine (once_any B a n c w0 wr hD.b hB hD.k hS hn 3 (by decide) (by decide)).mono ?_
          rintro e w4 ⟨tt, rfl, d4⟩
          cases tt
          · have D4 := hD.then d4
            have O4 := own_drawn hO d4 hBW
            clear d4
            go_wp2_with fail
            refine (below_any B a n c w0 _ D4.b hB D4.k hS hn r (by omega) (by omega)).mono ?_
            rintro e w5 ⟨t, rfl, ⟨t0, t1⟩, d5⟩
            obtain ⟨P, hPd, hP0, hP1⟩ : ∃ P, (r + t) * d = P ∧ -1600 ≤ P ∧ P ≤ 1600 := mulK_bd (by omega) (by omega) hd0 hd1
            obtain ⟨P', hPe, hP0', hP1'⟩ : ∃ P, (r + t) * f = P ∧ -1600 ≤ P ∧ P ≤ 1600 := mulK_bd (by omega) (by omega) hf0 hf1
            obtain ⟨Q, hQd, hQ0, hQ1⟩ := tdiv_bd P hP0 hP1
            obtain ⟨Q', hQe, hQ0', hQ1'⟩ := tdiv_bd P' hP0' hP1'
            have hw1 : IntKind.i64.wrap P = P := by rw [IntKind.wrap_i64]; omega
            have hw2 : IntKind.i64.wrap P' = P' := by rw [IntKind.wrap_i64]; omega
            have hw3 : IntKind.i64.wrap Q = Q := by rw [IntKind.wrap_i64]; omega
            have hw4 : IntKind.i64.wrap Q' = Q' := by rw [IntKind.wrap_i64]; omega
            have hw5 : IntKind.i64.wrap (x + Q) = x + Q := by rw [IntKind.wrap_i64]; omega
            have hw6 : IntKind.i64.wrap (y + Q') = y + Q' := by rw [IntKind.wrap_i64]; omega
            have D5 : Drawn w0 W B a n c w5 := D4.then d5
            have HO5 : Hid (w5.ownsRow W.heap.size 26 2 (.slice va k vc) k xs) := own_drawn O4 d5 hBW
            have hs5 : W.heap.size ≤ w5.heap.size := D5.o.size
            have hcc : ∀ w', Drawn w0 W B a n c w' → w'.cell? ⟨w.heap.size, i, none⟩ = some (.int .i64 d) ∧ w'.cell? ⟨w.heap.size + 1, i, none⟩ = some (.int .i64 f) := fun w' h => ⟨(h.o.cell _ _ hXl hXB).trans hcx, (h.o.cell _ _ hYl hYB).trans hcy⟩
            clear d5
            go_upto_region 9 with fail
            go_region_held3 (fun w' => Drawn w0 W B a n c w') (with_reducible (repeat (first | assumption | refine Drawn.drwR ?_ | refine Drawn.alcR ?_ _)))
              ((refine step_append_lies _ (by rfl) _ _ _ (by rfl) W.heap.size 26 i0 _ 2 16 Try.underlying30 hi0 hz0 hz1 hz2 rfl (by decide) (.slice va k vc) k xs (by rfl) (own_bel HO5.out (by with_reducible (repeat (first | exact Bel.refl _ | refine Bel.drew ?_ | refine bel_alloc ?_ _)))) ⟨w5.heap.size, 0, none⟩ 1 1 [.int .i64 (x + Q), .int .i64 (y + Q')] (by rfl) (by rfl) (World.news_of_block (cs := #[.int .i64 (x + Q), .int .i64 (y + Q')]) (t := 26) (fr := (0, 0)) (heap_alloc_new _ _)) (by simp [Value.oneCell']) (by omega) (by unfold maxLen; omega) (by omega) (by simp; omega) (w5.heap.size + 1) (by simp) ?_; intro g cap w6 hown hgrow _ _; refine (fun hk6 : Drawn w0 W B a n c w6 => ?_) (Drawn.grown (by assumption) hgrow hWl hBW (fun q e => (HO5.out.lt q e).1))))
            have HD6 : Hid (Drawn w0 W B a n c w6) := by assumption
            have HO6 : Hid (w6.ownsRow W.heap.size 26 2 (.slice (some ⟨g, 0, none⟩) (k + 1) cap) (k + 1) (xs ++ [.int .i64 (x + Q), .int .i64 (y + Q')])) := hown
            have HX6 : Hid (∀ u ∈ xs ++ [Value.int .i64 (x + Q), .int .i64 (y + Q')], ∃ z : Int, u = .int .i64 z ∧ In64 z) := ints_add HX.out (by omega) (by omega) (by omega) (by omega)
            clear hown hgrow hcc hw1 hw2 hw3 hw4 hw5 hw6 hPd hPe hQd hQe
            go_wp2
            go_roundw
            case rel => exact ⟨i + 1, k + 1, _, by omega, by omega, by go_num, HO6.out, HX6.out, HD6.out⟩
            case measure => simp [intOf]; omega
          · have D4 := (hD.then d4)
            have O4 := (own_drawn hO d4 hBW)
            have HD4 : Hid (Drawn w0 W B a n c w4) := D4
            have HO4 : Hid (w4.ownsRow W.heap.size 26 2 (.slice va k vc) k xs) := O4
            clear D4 O4 d4
            go_wp2
            go_roundw
            case rel => exact ⟨i + 1, k, _, by omega, by omega, by go_num, HO4.out, HX.out, HD4.out⟩
            case measure => simp [intOf]; omega
      · have h3b : decide ((k : Int) < 3) = false := by simp only [h3, decide_false]
        go_wp2_with fail
        refine (once_any B a n c w0 wr hD.b hB hD.k hS hn 3 (by decide) (by decide)).mono ?_
        rintro e w4 ⟨tt, rfl, d4⟩
        cases tt
        · have D4 := hD.then d4
          have O4 := own_drawn hO d4 hBW
          clear d4
          go_wp2_with fail
          refine (below_any B a n c w0 _ D4.b hB D4.k hS hn r (by omega) (by omega)).mono ?_
          rintro e w5 ⟨t, rfl, ⟨t0, t1⟩, d5⟩
          obtain ⟨P, hPd, hP0, hP1⟩ : ∃ P, (r + t) * d = P ∧ -1600 ≤ P ∧ P ≤ 1600 := mulK_bd (by omega) (by omega) hd0 hd1
          obtain ⟨P', hPe, hP0', hP1'⟩ : ∃ P, (r + t) * f = P ∧ -1600 ≤ P ∧ P ≤ 1600 := mulK_bd (by omega) (by omega) hf0 hf1
          obtain ⟨Q, hQd, hQ0, hQ1⟩ := tdiv_bd P hP0 hP1
          obtain ⟨Q', hQe, hQ0', hQ1'⟩ := tdiv_bd P' hP0' hP1'
          have hw1 : IntKind.i64.wrap P = P := by rw [IntKind.wrap_i64]; omega
          have hw2 : IntKind.i64.wrap P' = P' := by rw [IntKind.wrap_i64]; omega
          have hw3 : IntKind.i64.wrap Q = Q := by rw [IntKind.wrap_i64]; omega
          have hw4 : IntKind.i64.wrap Q' = Q' := by rw [IntKind.wrap_i64]; omega
          have hw5 : IntKind.i64.wrap (x + Q) = x + Q := by rw [IntKind.wrap_i64]; omega
          have hw6 : IntKind.i64.wrap (y + Q') = y + Q' := by rw [IntKind.wrap_i64]; omega
          have D5 : Drawn w0 W B a n c w5 := D4.then d5
          have HO5 : Hid (w5.ownsRow W.heap.size 26 2 (.slice va k vc) k xs) := own_drawn O4 d5 hBW
          have hs5 : W.heap.size ≤ w5.heap.size := D5.o.size
          have hcc : ∀ w', Drawn w0 W B a n c w' → w'.cell? ⟨w.heap.size, i, none⟩ = some (.int .i64 d) ∧ w'.cell? ⟨w.heap.size + 1, i, none⟩ = some (.int .i64 f) := fun w' h => ⟨(h.o.cell _ _ hXl hXB).trans hcx, (h.o.cell _ _ hYl hYB).trans hcy⟩
          clear d5
          go_upto_region 9 with fail
          go_region_held3 (fun w' => Drawn w0 W B a n c w') (with_reducible (repeat (first | assumption | refine Drawn.drwR ?_ | refine Drawn.alcR ?_ _)))
            ((refine step_append_lies _ (by rfl) _ _ _ (by rfl) W.heap.size 26 i0 _ 2 16 Try.underlying30 hi0 hz0 hz1 hz2 rfl (by decide) (.slice va k vc) k xs (by rfl) (own_bel HO5.out (by with_reducible (repeat (first | exact Bel.refl _ | refine Bel.drew ?_ | refine bel_alloc ?_ _)))) ⟨w5.heap.size, 0, none⟩ 1 1 [.int .i64 (x + Q), .int .i64 (y + Q')] (by rfl) (by rfl) (World.news_of_block (cs := #[.int .i64 (x + Q), .int .i64 (y + Q')]) (t := 26) (fr := (0, 0)) (heap_alloc_new _ _)) (by simp [Value.oneCell']) (by omega) (by unfold maxLen; omega) (by omega) (by simp; omega) (w5.heap.size + 1) (by simp) ?_; intro g cap w6 hown hgrow _ _; refine (fun hk6 : Drawn w0 W B a n c w6 => ?_) (Drawn.grown (by assumption) hgrow hWl hBW (fun q e => (HO5.out.lt q e).1))))
          have HD6 : Hid (Drawn w0 W B a n c w6) := by assumption
          have HO6 : Hid (w6.ownsRow W.heap.size 26 2 (.slice (some ⟨g, 0, none⟩) (k + 1) cap) (k + 1) (xs ++ [.int .i64 (x + Q), .int .i64 (y + Q')])) := hown
          have HX6 : Hid (∀ u ∈ xs ++ [Value.int .i64 (x + Q), .int .i64 (y + Q')], ∃ z : Int, u = .int .i64 z ∧ In64 z) := ints_add HX.out (by omega) (by omega) (by omega) (by omega)
          clear hown hgrow hcc hw1 hw2 hw3 hw4 hw5 hw6 hPd hPe hQd hQe
          go_wp2
          go_roundw
          case rel => exact ⟨i + 1, k + 1, _, by omega, by omega, by go_num, HO6.out, HX6.out, HD6.out⟩
          case measure => simp [intOf]; omega
        · have D4 := (hD.then d4)
          have O4 := (own_drawn hO d4 hBW)
          have HD4 : Hid (Drawn w0 W B a n c w4) := D4
          have HO4 : Hid (w4.ownsRow W.heap.size 26 2 (.slice va k vc) k xs) := O4
          clear D4 O4 d4
          go_wp2
          go_roundw
          case rel => exact ⟨i + 1, k, _, by omega, by omega, by go_num, HO4.out, HX.out, HD4.out⟩
          case measure => simp [intOf]; omega
    · obtain rfl : i = 8 := by omega
      rcases k with _ | k
      · go_wp2_with fail
        refine (once_any B a n c w0 wr hD.b hB hD.k hS hn 3 (by decide) (by decide)).mono ?_
        rintro e w8 ⟨tt, rfl, d8⟩
        have D8 : Hid (Drawn w0 W B a n c w8) := hD.then d8
        obtain ⟨a8, c8, l8, bs8, e8, _, Hl8, hP8, hb8⟩ := own_ptl (own_drawn hO d8 hBW) HX.out
        have HL8 : Hid (l8.length = 0) := Hl8
        injection e8 with e8a _ e8c
        subst e8a e8c
        have HP8 : Hid (PtL w8 _ l8 bs8) := hP8
        have HB8 : Hid (∀ x ∈ bs8, W.heap.size ≤ x ∧ x < w8.heap.size) := hb8
        clear d8 Hl8 hP8 hb8
        cases tt
        · go_wp2
          go_ret
          exact ⟨_, _, l8, bs8, by rw [HL8.out]; rfl, by have := HL8.out; omega, HP8.out, fun x hx => by have := (HB8.out x hx).1; omega, D8.out.from hBW'⟩
        · go_wp2_with fail
          refine (l4Turned_any _ _ _ l8 bs8 _ HP8.out HL8.out (by omega)).mono ?_
          rintro e w9 ⟨a9, c9, bs9, rfl, hP9, hF9, hb9⟩
          have HP9 : Hid (PtL w9 a9 l8.reverse bs9) := hP9
          have HF9 : Hid (∀ x ∈ bs9, w.heap.size ≤ x) := fun x hx => by have := (hF9.new x hx).1; have := D8.out.o.size; omega
          have HD9 : Hid (Drawn w0 w B a n c w9) := (D8.out.bel hb9).from hBW'
          clear hP9 hF9 hb9
          go_wp2
          go_ret
          exact ⟨_, _, l8.reverse, bs9, by rw [List.length_reverse, HL8.out]; rfl, by rw [List.length_reverse, HL8.out]; omega, HP9.out, HF9.out, HD9.out⟩
      · obtain ⟨g, cap, hv⟩ : ∃ g cap, (.slice va (k + 1) vc : Value) = .slice (some ⟨g, 0, none⟩) (k + 1) cap := by
          rcases hO.2 with ⟨_, h0⟩ | ⟨g, cap, cur, h1, _⟩
          · omega
          · exact ⟨g, cap, h1⟩
        injection hv with hva _ hvc
        subst hva hvc
        have hgl := hO.lt g rfl
        have hl2 : xs.length = (k + 1) * 2 := hO.1
        obtain ⟨p, ep, ip⟩ := HX.out (xs[0]'(by omega)) (List.getElem_mem _)
        obtain ⟨q, eq, iq⟩ := HX.out (xs[1]'(by omega)) (List.getElem_mem _)
        have c0 : wr.cell? ⟨g, 0, none⟩ = some (.int .i64 p) := by rw [hO.cellAt 0 (by omega), List.getElem?_eq_getElem (by omega), ep]
        have c1 : wr.cell? ⟨g, 1, none⟩ = some (.int .i64 q) := by rw [hO.cellAt 1 (by omega), List.getElem?_eq_getElem (by omega), eq]
        have hs5 : W.heap.size ≤ wr.heap.size := hD.o.size
        obtain ⟨hgl0, hgl1⟩ := hgl
        have HO : Hid ((wr.alloc (.cells #[.int .i64 p, .int .i64 q] 26)).ownsRow W.heap.size 26 2 (.slice (some ⟨g, 0, none⟩) (k + 1) vc) (k + 1) xs) := hO.alloc (.cells #[.int .i64 p, .int .i64 q] 26)
        have HD : Hid (Drawn w0 W B a n c (wr.alloc (.cells #[.int .i64 p, .int .i64 q] 26))) := hD.bel (bel_alloc (Bel.refl wr) (.cells #[.int .i64 p, .int .i64 q] 26))
        have HN : Hid (∀ (j : Nat) (u : Value), [Value.int .i64 p, .int .i64 q][j]? = some u → (wr.alloc (.cells #[.int .i64 p, .int .i64 q] 26)).cell? ((⟨wr.heap.size, 0, none⟩ : Addr).add j) = some u) := World.news_of_block (cs := #[.int .i64 p, .int .i64 q]) (t := 26) (fr := (0, 0)) (heap_alloc_new wr _)
        have hk1 : decide ((0 : Int) < (k : Int) + 1) = true := by simp only [decide_eq_true_eq]; omega
        clear hO hD hl2 ep eq
        go_wp2_with (first
          | (at_builtin; refine wpList_append_own _ rfl _ _ 30 rfl W.heap.size 26 i0 (.agg #[.int .i64 0, .int .i64 0]) 2 16 Try.underlying30 hi0 hz0 hz1 hz2 rfl (by decide) _ _ _ rfl HO.out ⟨wr.heap.size, 0, none⟩ 1 1 [.int .i64 p, .int .i64 q] rfl rfl HN.out (by simp [Value.oneCell']) (by unfold maxLen; omega) (by omega) (by simp; omega) ?_)
          | go_in)
        intro v' w6 hown hgrow _
        have HD6 : Hid (Drawn w0 W B a n c w6) := HD.out.grown hgrow hWl hBW (fun q e => (HO.out.lt q e).1)
        have HO6 : Hid (w6.ownsRow W.heap.size 26 2 v' (k + 1 + 1) (xs ++ [.int .i64 p, .int .i64 q])) := hown
        obtain ⟨va', vc', rfl⟩ := own_form hown
        have HX6 : Hid (∀ u ∈ xs ++ [Value.int .i64 p, .int .i64 q], ∃ z : Int, u = .int .i64 z ∧ In64 z) := ints_add HX.out ip.1 ip.2 iq.1 iq.2
        clear hown hgrow HO HD HN c0 c1
        go_wp2_with fail
        refine (once_any B a n c w0 w6 HD6.out.b hB HD6.out.k hS hn 3 (by decide) (by decide)).mono ?_
        rintro e w8 ⟨tt, rfl, d8⟩
        have D8 : Hid (Drawn w0 W B a n c w8) := HD6.out.then d8
        obtain ⟨a8, c8, l8, bs8, e8, _, Hl8, hP8, hb8⟩ := own_ptl (own_drawn HO6.out d8 hBW) HX6.out
        have HL8 : Hid (l8.length = k + 1 + 1) := Hl8
        injection e8 with e8a _ e8c
        subst e8a e8c
        have HP8 : Hid (PtL w8 _ l8 bs8) := hP8
        have HB8 : Hid (∀ x ∈ bs8, W.heap.size ≤ x ∧ x < w8.heap.size) := hb8
        clear d8 Hl8 hP8 hb8
        cases tt
        · go_wp2
          go_ret
          exact ⟨_, _, l8, bs8, by rw [HL8.out]; rfl, by have := HL8.out; omega, HP8.out, fun x hx => by have := (HB8.out x hx).1; omega, D8.out.from hBW'⟩
        · go_wp2_with fail
          refine (l4Turned_any _ _ _ l8 bs8 _ HP8.out HL8.out (by omega)).mono ?_
          rintro e w9 ⟨a9, c9, bs9, rfl, hP9, hF9, hb9⟩
          have HP9 : Hid (PtL w9 a9 l8.reverse bs9) := hP9
          have HF9 : Hid (∀ x ∈ bs9, w.heap.size ≤ x) := fun x hx => by have := (hF9.new x hx).1; have := D8.out.o.size; omega
          have HD9 : Hid (Drawn w0 w B a n c w9) := (D8.out.bel hb9).from hBW'
          clear hP9 hF9 hb9
          go_wp2
          go_ret
          exact ⟨_, _, l8.reverse, bs9, by rw [List.length_reverse, HL8.out]; rfl, by rw [List.length_reverse, HL8.out]; omega, HP9.out, HF9.out, HD9.out⟩
end Go.Proofs.Ytkpgcnfokohhiaa

namespace Go.Proofs.Ytkpgcnfokohhiaa
open Go.RowKit

/-- One ring of a row of rings of its own. -/
structure RgAt (lo : Nat) (w : World) (v : Value) (xs : List Value) (i : Nat) (d : RingD) : Prop where
  out : ∃ a c bs, xs[i * 2]? = some (.slice a d.row.length c) ∧ xs[i * 2 + 1]? = some (.bool d.inner) ∧ d.row.length ≤ 2001 ∧ PtL w a d.row bs ∧ ∀ x ∈ bs, lo ≤ x ∧ x < w.heap.size ∧ v.ownBlock ≠ some x
/-- A row of rings of its own. -/
structure GrW (lo : Nat) (w : World) (v : Value) (l : List RingD) : Prop where
  out : ∃ xs, w.ownsRow lo 32 2 v l.length xs ∧ ∀ i (h : i < l.length), RgAt lo w v xs i l[i]
theorem GrW.keep {lo : Nat} {w w' : World} {v : Value} {l : List RingD} (h : GrW lo w v l) (ho : ∀ xs, w.ownsRow lo 32 2 v l.length xs → w'.ownsRow lo 32 2 v l.length xs)
    (hA : ∀ bs, (∀ x ∈ bs, lo ≤ x ∧ x < w.heap.size ∧ v.ownBlock ≠ some x) → Alike w w' bs) : GrW lo w' v l := by
  obtain ⟨xs, h1, h2⟩ := h.out
  refine ⟨xs, ho xs h1, fun i hi => ?_⟩
  obtain ⟨a, c, bs, e0, e1, hl, hp, hb⟩ := (h2 i hi).out
  have hh := hA bs hb
  exact ⟨a, c, bs, e0, e1, hl, hp.alike ptE hh, fun x hx => ⟨(hb x hx).1, (hh x hx).1, (hb x hx).2.2⟩⟩
theorem GrW.bel {lo : Nat} {w w' : World} {v : Value} {l : List RingD} (h : GrW lo w v l) (hb : Bel w w') : GrW lo w' v l :=
  h.keep (fun _ ho => own_bel ho hb) fun _ hs => Alike.bel hb fun x hx => (hs x hx).2.1
theorem GrW.drawn {lo : Nat} {w w' w0 : World} {v : Value} {l : List RingD} {B : Nat} {a : Option Addr} {n c : Nat} (h : GrW lo w v l) (d : Drawn w0 w B a n c w') (hB : B < lo) : GrW lo w' v l :=
  h.keep (fun _ ho => own_drawn ho d hB) fun bs hs x hx => by
    have hne : x ≠ B := by have := (hs x hx).1; omega
    exact ⟨Nat.lt_of_lt_of_le (hs x hx).2.1 d.o.size, fun o => d.o.cell x o (hs x hx).2.1 hne, fun o => d.o.froz x o (hs x hx).2.1 hne⟩
theorem GrW.add {lo : Nat} {w2 w3 : World} {v v' : Value} {l : List RingD} {xs : List Value} (h2 : ∀ i (h : i < l.length), RgAt lo w2 v xs i l[i]) (hx : xs.length = l.length * 2) (d : RingD) (a : Option Addr) (c : Nat) (bs : List Nat) (hl : d.row.length ≤ 2001) (hp : PtL w2 a d.row bs) (hb : ∀ x ∈ bs, lo ≤ x ∧ x < w2.heap.size ∧ v.ownBlock ≠ some x)
    (ho : w3.ownsRow lo 32 2 v' (l.length + 1) (xs ++ [.slice a d.row.length c, .bool d.inner])) (hg : w2.grownBy w3 v.ownBlock) (hat : v'.ownBlock = v.ownBlock ∨ v'.ownBlock = some w2.heap.size) : GrW lo w3 v' (l ++ [d]) := by
  have key : ∀ cs, (∀ x ∈ cs, lo ≤ x ∧ x < w2.heap.size ∧ v.ownBlock ≠ some x) → Alike w2 w3 cs ∧ ∀ x ∈ cs, lo ≤ x ∧ x < w3.heap.size ∧ v'.ownBlock ≠ some x := fun cs hc => by
    have hA : Alike w2 w3 cs := alike_row hg fun x hx => ⟨(hc x hx).2.1, fun e => (hc x hx).2.2 e.symm⟩
    refine ⟨hA, fun x hx => ⟨(hc x hx).1, (hA x hx).1, fun e => ?_⟩⟩
    rcases hat with h | h
    · rw [h] at e; exact (hc x hx).2.2 e
    · rw [h] at e; injection e with e; have := (hc x hx).2.1; omega
  refine ⟨_, by rw [List.length_append]; exact ho, fun i hi => ?_⟩
  rw [List.length_append, List.length_singleton] at hi
  by_cases e : i = l.length
  · subst e
    obtain ⟨hA, hB⟩ := key bs hb
    have ed : (l ++ [d])[l.length]'(by simp) = d := by simp
    rw [ed]
    exact ⟨a, c, bs, by rw [List.getElem?_append_right (by omega), hx]; simp, by rw [List.getElem?_append_right (by omega), hx]; simp, hl, hp.alike ptE hA, hB⟩
  · have hi' : i < l.length := by omega
    rw [List.getElem_append_left hi']
    obtain ⟨a, c, bs, e0, e1, hl, hp, hb⟩ := (h2 i hi').out
    obtain ⟨hA, hB⟩ := key bs hb
    exact ⟨a, c, bs, by rw [List.getElem?_append_left (by omega)]; exact e0, by rw [List.getElem?_append_left (by omega)]; exact e1, hl, hp.alike ptE hA, hB⟩
theorem GrW.read {lo : Nat} {w : World} {v : Value} {l : List RingD} (h : GrW lo w v l) : ∃ a c bs, v = .slice a l.length c ∧ l.length ≤ c ∧ RingL w a l bs ∧ (∀ x ∈ bs, lo ≤ x ∧ x < w.heap.size) ∧ ∀ i (h : i < l.length), l[i].row.length ≤ 2001 := by
  obtain ⟨xs, h1, h2⟩ := h.out
  have hrow : ∀ i (h : i < l.length), l[i].row.length ≤ 2001 := fun i hi => by obtain ⟨_, _, _, _, _, hl, _⟩ := (h2 i hi).out; exact hl
  have hown := h1
  rcases h1.2 with ⟨rfl, hz⟩ | ⟨g, cap, cur, rfl, hg, e3, hcap, _⟩
  · exact ⟨none, 0, [], by rw [hz], by omega, .inl ⟨List.length_eq_zero_iff.1 hz, rfl⟩, by simp, hrow⟩
  · have hlt := hown.lt g rfl
    have key : ∀ i, ∃ bs, ∀ h : i < l.length, RingE w g (0 + i * 2) l[i] bs ∧ ∀ x ∈ bs, lo ≤ x ∧ x < w.heap.size := fun i => by
      by_cases hi : i < l.length
      · obtain ⟨a, c, bs, e0, e1, hl, hp, hb⟩ := (h2 i hi).out
        refine ⟨bs, fun _ => ⟨⟨a, c, by unfold maxLen; omega, ?_, ?_, hp⟩, fun x hx => ⟨(hb x hx).1, (hb x hx).2.1⟩⟩⟩
        · rw [Nat.zero_add, hown.cellAt (i * 2) (by omega)]; exact e0
        · rw [Nat.zero_add, hown.cellAt (i * 2 + 1) (by omega)]; exact e1
      · exact ⟨[], fun h => absurd h hi⟩
    obtain ⟨f, hf⟩ := Classical.axiomOfChoice key
    refine ⟨some ⟨g, 0, none⟩, cap, g :: (List.range l.length).flatMap f, rfl, hcap, .inr ⟨g, 0, f, rfl, hlt.2, rfl, fun i hi => (hf i hi).1⟩, fun x hx => ?_, hrow⟩
    rcases List.mem_cons.1 hx with rfl | hx
    · exact hlt
    · obtain ⟨i, hi, hx⟩ := List.mem_flatMap.1 hx
      exact (hf i (List.mem_range.1 hi)).2 x hx
end Go.Proofs.Ytkpgcnfokohhiaa

namespace Go.Proofs.Ytkpgcnfokohhiaa
open Go.RowKit

/-- The first ring's row is put anew. -/
theorem GrW.set0 {lo : Nat} {w : World} {g n cap : Nat} {d : RingD} {l : List RingD} (h : GrW lo w (.slice (some ⟨g, 0, none⟩) n cap) (d :: l)) (hn : (d :: l).length = n) (a : Option Addr) (c : Nat) (row : List PtD) (bs : List Nat) (hl : row.length ≤ 2001) (hp : PtL w a row bs) (hb : ∀ x ∈ bs, lo ≤ x ∧ x < w.heap.size ∧ g ≠ x) :
    GrW lo (w.setCell ⟨g, 0, none⟩ (.slice a row.length c)) (.slice (some ⟨g, 0, none⟩) n cap) (⟨row, d.inner⟩ :: l) := by
  subst hn
  obtain ⟨xs, h1, h2⟩ := h.out
  obtain ⟨ho, hg⟩ := World.ownsRow.stored h1 0 (.slice a row.length c)
  have hlen : xs.length = (l.length + 1) * 2 := h1.1
  have hal : ∀ cs : List Nat, (∀ x ∈ cs, x < w.heap.size ∧ g ≠ x) → Alike w (w.setCell ⟨g, 0, none⟩ (.slice a row.length c)) cs := fun cs hc => alike_row hg fun x hx => ⟨(hc x hx).1, fun e => by injection e with e; exact (hc x hx).2 e.symm⟩
  have hsz : (w.setCell ⟨g, 0, none⟩ (.slice a row.length c)).heap.size = w.heap.size := by simp [World.setCell]
  refine ⟨_, ho, fun i hi => ?_⟩
  cases i with
  | zero =>
    obtain ⟨_, _, _, _, e1, _⟩ := (h2 0 (by simp)).out
    exact ⟨a, c, bs, by simp [hlen], by rw [List.getElem?_set_ne (by omega)]; exact e1, hl, hp.alike ptE (hal bs fun x hx => ⟨(hb x hx).2.1, (hb x hx).2.2⟩), fun x hx => ⟨(hb x hx).1, by rw [hsz]; exact (hb x hx).2.1, fun e => by simp [Value.ownBlock] at e; exact (hb x hx).2.2 e⟩⟩
  | succ i =>
    obtain ⟨a', c', bs', e0, e1, hl', hp', hb'⟩ := (h2 (i + 1) (by simpa using hi)).out
    exact ⟨a', c', bs', by rw [List.getElem?_set_ne (by omega)]; exact e0, by rw [List.getElem?_set_ne (by omega)]; exact e1, hl', hp'.alike ptE (hal bs' fun x hx => ⟨(hb' x hx).2.1, fun e => (hb' x hx).2.2 (by simp [Value.ownBlock, e])⟩), fun x hx => ⟨(hb' x hx).1, by rw [hsz]; exact (hb' x hx).2.1, (hb' x hx).2.2⟩⟩

set_option maxRecDepth 100000 in
set_option maxHeartbeats 4000000 in
theorem drawRings_any (B : Nat) (a : Option Addr) (n c : Nat) (w0 w : World) (hb : Bel w0 w) (hB : w0.heap.size ≤ B) (hC : Cur w B a n c) (hS : Bts w0 a n) (hn : n ≤ 1048576) :
    Calls Try.prog 18 #[.pointer (some ⟨B, 0, none⟩)] w fun e w' => ∃ (v : Value) (l : List RingD), e = .returned v ∧ l.length ≤ 45 ∧ GrW w.heap.size w' v l ∧ Drawn w0 w B a n c w' := by
  obtain ⟨i0, hi0, hz0, hz1, hz2⟩ := info_parts infoRg
  have hBl : B < w.heap.size := hC.lt
  have hW0 : w0.heap.size ≤ w.heap.size := hb.out.size
  have D1 : Drawn w0 w B a n c (w.alloc (.cells #[] 32)) := Drawn.bel ⟨hb, OnlyB.refl _ _, hC⟩ (bel_alloc (Bel.refl _) _)
  have G1 : GrW w.heap.size (w.alloc (.cells #[] 32)) (.slice (some ⟨w.heap.size, 0, none⟩) 0 0) [] := ⟨[], World.ownsRow_lit w #[] 0 (Nat.le_refl _) (Nat.zero_le _) rfl, fun i h => absurd h (Nat.not_lt_zero _)⟩
  go_enter Try.func18, Try.ntmps18
  go_wp2_with fail
  refine (below_any B a n c w0 _ D1.b hB D1.k hS hn 4 (by decide) (by decide)).mono ?_
  rintro e w1 ⟨t, rfl, ⟨t0, t1⟩, d1⟩
  obtain ⟨i1, rfl⟩ : ∃ m : Nat, t = m := ⟨t.toNat, by omega⟩
  have G1' := G1.drawn d1 hBl
  have D1' := D1.then d1
  clear G1 D1 d1
  go_wp2
  go_loopw [3, 4, 5] (fun o ix _ wr => ∃ (i : Nat) (l : List RingD), ix = .int .i64 i ∧ i ≤ 3 ∧ l.length + i ≤ 3 ∧ GrW w.heap.size wr o l ∧ Drawn w0 w B a n c wr) (fun _ ix _ _ => (intOf ix).toNat)
  case atStart => exact ⟨i1, [], rfl, by omega, by simp; omega, G1', D1'⟩
  case round =>
    clear G1' D1'
    obtain ⟨i, l, rfl, hi3, hli, hG, hD⟩ := hrel
    obtain ⟨va, vc, _, rfl, _⟩ := hG.read
    rcases i with _ | i
    · go_wp2_with fail
      refine (once_any B a n c w0 _ hD.b hB hD.k hS hn 12 (by decide) (by decide)).mono ?_
      rintro e w2 ⟨t2, rfl, d2⟩
      have D2 := hD.then d2
      have G2 := hG.drawn d2 hBl
      clear hD hG d2
      cases t2
      · go_wp2_with fail
        refine (once_any B a n c w0 _ D2.b hB D2.k hS hn 60 (by decide) (by decide)).mono ?_
        rintro e w7 ⟨t7, rfl, d7⟩
        have D7 := D2.then d7
        have G7 := G2.drawn d7 hBl
        clear d7 G2 D2
        cases t7
        · have HG : Hid (GrW w.heap.size w7 _ l) := G7
          have HD : Hid (Drawn w0 w B a n c w7) := D7
          clear G7 D7
          go_wp2
          go_ret
          exact ⟨_, l, rfl, by omega, HG.out, HD.out⟩
        · go_wp2_with fail
          refine (below_any B a n c w0 _ D7.b hB D7.k hS hn 3 (by decide) (by decide)).mono ?_
          rintro e w8 ⟨t, rfl, ⟨t0, t1⟩, d8⟩
          obtain ⟨q, Hq⟩ : ∃ m : Nat, Hid (t + 40 - 1 = m) := ⟨(t + 39).toNat, (by omega : t + 40 - 1 = ((t + 39).toNat : Int))⟩
          have hq41 : q ≤ 41 := by have := Hq.out; omega
          have hq1 : t + 40 - 1 = (q : Int) := Hq.out
          have D8 := D7.then d8
          have G8 := G7.drawn d8 hBl
          clear d8 D7 G7
          go_wp2
          try rw [hq1]
          clear hq1
          go_loopw [3, 6] (fun o ix wr => ∃ (i : Nat) (l : List RingD), ix = .int .i64 i ∧ i ≤ 41 ∧ l.length + i ≤ 44 ∧ GrW w.heap.size wr o l ∧ Drawn w0 w B a n c wr) (fun _ ix _ => (intOf ix).toNat)
          case atStart => exact ⟨q, l, rfl, by omega, by omega, G8, D8⟩
          case round =>
            clear G8 D8
            obtain ⟨i, l, rfl, hi41, hl44, hG, hD⟩ := hrel
            obtain ⟨va, vc, _, rfl, _⟩ := hG.read
            have DX : Hid (Drawn w0 w B a n c wr) := hD
            have HG : Hid (GrW w.heap.size wr (.slice va l.length vc) l) := hG
            clear hD hG
            rcases i with _ | i
            · go_wp2
              go_ret
              exact ⟨_, l, rfl, by omega, HG.out, DX.out⟩
            · have hpos : (0 : Int) < ((i + 1 : Nat) : Int) := by omega
              obtain ⟨xs, ho, hrg⟩ := HG.out.out
              have HRG : Hid (∀ i (h : i < l.length), RgAt w.heap.size (wr.alloc (.cells #[.slice none 0 0, .bool false] 32)) (.slice va l.length vc) xs i l[i]) := fun i h => by
                obtain ⟨a9, c9, bs9, q0, q1, q2, q3, q4⟩ := (hrg i h).out
                exact ⟨a9, c9, bs9, q0, q1, q2, q3.bel ptE (bel_alloc (Bel.refl _) _), fun x hx => ⟨(q4 x hx).1, by have := (q4 x hx).2.1; simp; omega, (q4 x hx).2.2⟩⟩
              have HXl : Hid (xs.length = l.length * 2) := ho.1
              have HO : Hid ((wr.alloc (.cells #[.slice none 0 0, .bool false] 32)).ownsRow w.heap.size 32 2 (.slice va l.length vc) l.length xs) := ho.alloc _
              have HDa : Hid (Drawn w0 w B a n c (wr.alloc (.cells #[.slice none 0 0, .bool false] 32))) := DX.out.alcR _
              obtain ⟨ln, HLn⟩ : ∃ q, Hid (l.length = q) := ⟨_, (rfl : l.length = _)⟩
              have hln : ln ≤ 50 := by rw [← HLn.out]; omega
              rw [HLn.out] at HO HXl ⊢
              have hsX : w.heap.size ≤ wr.heap.size := DX.out.o.size
              clear hrg ho
              go_wp2_with (first
                | (at_builtin; refine wpList_append_lies _ rfl _ _ 24 rfl w.heap.size 32 i0 (.agg #[.slice none 0 0, .bool false]) 2 32 Try.underlying24 hi0 hz0 hz1 hz2 rfl (by decide) _ _ _ rfl HO.out ⟨wr.heap.size, 0, none⟩ 1 1 [.slice none 0 0, .bool false] rfl rfl (World.news_of_block (cs := #[.slice none 0 0, .bool false]) (t := 32) (fr := (0, 0)) (heap_alloc_new _ _)) (by simp [Value.oneCell']) (by decide) (by unfold maxLen; omega) (by omega) (by simp; omega) (wr.heap.size + 1) (by simp) ?_)
                | go_in)
              intro g cap wN hown hgrow hat _
              have HGN : Hid (GrW w.heap.size wN (.slice (some ⟨g, 0, none⟩) (ln + 1) cap) (l ++ [⟨[], false⟩])) := by
                have hat' : (Value.slice va ln vc).ownBlock = some g ∨ g = (wr.alloc (.cells #[.slice none 0 0, .bool false] 32)).heap.size := by simpa using hat
                exact GrW.add (v := .slice va l.length vc) (fun i h => HRG.out i h) (by rw [HLn.out]; exact HXl.out) ⟨[], false⟩ none 0 [] (by simp) Sl.nil (fun x hx => nomatch hx) (by rw [HLn.out]; exact hown) (by rw [HLn.out]; exact hgrow) (by rw [HLn.out]; exact hatO hat')
              have HDN : Hid (Drawn w0 w B a n c wN) := HDa.out.grown hgrow hW0 hBl (fun q e => (HO.out.lt q e).1)
              clear hown hgrow hat HRG HO HDa HG DX
              go_wp2
              go_roundw
              case rel => exact ⟨i, l ++ [⟨[], false⟩], by go_num, by omega, by simp; omega, HGN.out, HDN.out⟩
              case measure => simp [intOf]
      · rcases l with _ | ⟨d, l⟩
        · go_wp2_with fail
          refine (once_any B a n c w0 _ D2.b hB D2.k hS hn 60 (by decide) (by decide)).mono ?_
          rintro e w7 ⟨t7, rfl, d7⟩
          have D7 := D2.then d7
          have G7 := G2.drawn d7 hBl
          clear d7 G2 D2
          cases t7
          · have HG : Hid (GrW w.heap.size w7 _ []) := G7
            have HD : Hid (Drawn w0 w B a n c w7) := D7
            clear G7 D7
            go_wp2
            go_ret
            exact ⟨_, [], rfl, by simp, HG.out, HD.out⟩
          · go_wp2_with fail
            refine (below_any B a n c w0 _ D7.b hB D7.k hS hn 3 (by decide) (by decide)).mono ?_
            rintro e w8 ⟨t, rfl, ⟨t0, t1⟩, d8⟩
            obtain ⟨q, Hq⟩ : ∃ m : Nat, Hid (t + 40 - 1 = m) := ⟨(t + 39).toNat, (by omega : t + 40 - 1 = ((t + 39).toNat : Int))⟩
            have hq41 : q ≤ 41 := by have := Hq.out; omega
            have hq1 : t + 40 - 1 = (q : Int) := Hq.out
            have D8 := D7.then d8
            have G8 := G7.drawn d8 hBl
            clear d8 D7 G7
            go_wp2
            try rw [hq1]
            clear hq1
            go_loopw [3, 6] (fun o ix wr => ∃ (i : Nat) (l : List RingD), ix = .int .i64 i ∧ i ≤ 41 ∧ l.length + i ≤ 44 ∧ GrW w.heap.size wr o l ∧ Drawn w0 w B a n c wr) (fun _ ix _ => (intOf ix).toNat)
            case atStart => exact ⟨q, [], rfl, by omega, by simp; omega, G8, D8⟩
            case round =>
              clear G8 D8
              obtain ⟨i, l, rfl, hi41, hl44, hG, hD⟩ := hrel
              obtain ⟨va, vc, _, rfl, _⟩ := hG.read
              have DX : Hid (Drawn w0 w B a n c wr) := hD
              have HG : Hid (GrW w.heap.size wr (.slice va l.length vc) l) := hG
              clear hD hG
              rcases i with _ | i
              · go_wp2
                go_ret
                exact ⟨_, l, rfl, by omega, HG.out, DX.out⟩
              · have hpos : (0 : Int) < ((i + 1 : Nat) : Int) := by omega
                obtain ⟨xs, ho, hrg⟩ := HG.out.out
                have HRG : Hid (∀ i (h : i < l.length), RgAt w.heap.size (wr.alloc (.cells #[.slice none 0 0, .bool false] 32)) (.slice va l.length vc) xs i l[i]) := fun i h => by
                  obtain ⟨a9, c9, bs9, q0, q1, q2, q3, q4⟩ := (hrg i h).out
                  exact ⟨a9, c9, bs9, q0, q1, q2, q3.bel ptE (bel_alloc (Bel.refl _) _), fun x hx => ⟨(q4 x hx).1, by have := (q4 x hx).2.1; simp; omega, (q4 x hx).2.2⟩⟩
                have HXl : Hid (xs.length = l.length * 2) := ho.1
                have HO : Hid ((wr.alloc (.cells #[.slice none 0 0, .bool false] 32)).ownsRow w.heap.size 32 2 (.slice va l.length vc) l.length xs) := ho.alloc _
                have HDa : Hid (Drawn w0 w B a n c (wr.alloc (.cells #[.slice none 0 0, .bool false] 32))) := DX.out.alcR _
                obtain ⟨ln, HLn⟩ : ∃ q, Hid (l.length = q) := ⟨_, (rfl : l.length = _)⟩
                have hln : ln ≤ 50 := by rw [← HLn.out]; omega
                rw [HLn.out] at HO HXl ⊢
                have hsX : w.heap.size ≤ wr.heap.size := DX.out.o.size
                clear hrg ho
                go_wp2_with (first
                  | (at_builtin; refine wpList_append_lies _ rfl _ _ 24 rfl w.heap.size 32 i0 (.agg #[.slice none 0 0, .bool false]) 2 32 Try.underlying24 hi0 hz0 hz1 hz2 rfl (by decide) _ _ _ rfl HO.out ⟨wr.heap.size, 0, none⟩ 1 1 [.slice none 0 0, .bool false] rfl rfl (World.news_of_block (cs := #[.slice none 0 0, .bool false]) (t := 32) (fr := (0, 0)) (heap_alloc_new _ _)) (by simp [Value.oneCell']) (by decide) (by unfold maxLen; omega) (by omega) (by simp; omega) (wr.heap.size + 1) (by simp) ?_)
                  | go_in)
                intro g cap wN hown hgrow hat _
                have HGN : Hid (GrW w.heap.size wN (.slice (some ⟨g, 0, none⟩) (ln + 1) cap) (l ++ [⟨[], false⟩])) := by
                  have hat' : (Value.slice va ln vc).ownBlock = some g ∨ g = (wr.alloc (.cells #[.slice none 0 0, .bool false] 32)).heap.size := by simpa using hat
                  exact GrW.add (v := .slice va l.length vc) (fun i h => HRG.out i h) (by rw [HLn.out]; exact HXl.out) ⟨[], false⟩ none 0 [] (by simp) Sl.nil (fun x hx => nomatch hx) (by rw [HLn.out]; exact hown) (by rw [HLn.out]; exact hgrow) (by rw [HLn.out]; exact hatO hat')
                have HDN : Hid (Drawn w0 w B a n c wN) := HDa.out.grown hgrow hW0 hBl (fun q e => (HO.out.lt q e).1)
                clear hown hgrow hat HRG HO HDa HG DX
                go_wp2
                go_roundw
                case rel => exact ⟨i, l ++ [⟨[], false⟩], by go_num, by omega, by simp; omega, HGN.out, HDN.out⟩
                case measure => simp [intOf]
        · obtain ⟨g, cap, hv⟩ : ∃ g cap, (.slice va (d :: l).length vc : Value) = .slice (some ⟨g, 0, none⟩) (d :: l).length cap := by
            obtain ⟨xs, h1, _⟩ := G2.out
            rcases h1.2 with ⟨_, h0⟩ | ⟨g, cap, cur, h1, _⟩
            · simp at h0
            · exact ⟨g, cap, h1⟩
          injection hv with hva _ hvc
          subst hva hvc
          obtain ⟨ln, HLn⟩ : ∃ q, Hid ((d :: l).length = q) := ⟨_, (rfl : (d :: l).length = _)⟩
          rw [HLn.out] at G2 hli ⊢
          have hl1 : (0 : Int) < (ln : Int) := by rw [← HLn.out]; simp
          have hgl : w.heap.size ≤ g ∧ g < w2.heap.size := by
            obtain ⟨xs, h1, _⟩ := G2.out
            exact h1.lt g rfl
          go_wp2_with fail
          refine (drawAnyB_any B a n c w0 _ D2.b hB D2.k hS hn).mono ?_
          rintro e w3 ⟨v3, m3, xs3, rfl, hm3, hO3, hX3, d3⟩
          have D3 := D2.then d3
          have G3 := G2.drawn d3 hBl
          obtain ⟨a3, c3, l3, bs3, rfl, _, Hl3, hP3, hb3⟩ := own_ptl hO3 hX3
          have HL3 : Hid (l3.length = m3) := Hl3
          have hs2 := D2.o.size
          obtain ⟨k0, kf⟩ : (∃ u, w3.cell? ⟨g, 0, none⟩ = some u) ∧ w3.frozen? ⟨g, 0, none⟩ = false := by
            obtain ⟨xs, h1, h2⟩ := G3.out
            obtain ⟨_, _, _, e0, _⟩ := (h2 0 (by simp)).out
            have h1' := h1
            rw [HLn.out] at h1'
            refine ⟨⟨_, by rw [h1'.cellAt 0 (by omega)]; exact e0⟩, ?_⟩
            exact h1'.frozenAt 0
          obtain ⟨u0, k0⟩ := k0
          have HG4 : Hid (GrW w.heap.size (w3.setCell ⟨g, 0, none⟩ (.slice a3 m3 c3)) (.slice (some ⟨g, 0, none⟩) ln vc) (⟨l3, d.inner⟩ :: l)) := by
            have := GrW.set0 G3 HLn.out a3 c3 l3 bs3 (by rw [HL3.out]; exact hm3) hP3 (fun x hx => ⟨by have := (hb3 x hx).1; omega, (hb3 x hx).2, by have := (hb3 x hx).1; omega⟩)
            rw [HL3.out] at this
            exact this
          have HD4 : Hid (Drawn w0 w B a n c (w3.setCell ⟨g, 0, none⟩ (.slice a3 m3 c3))) := D3.grown (row := some g) ⟨rfl, rfl, rfl, by simp [World.setCell], fun k _ hk => heap_setCell_other w3 ⟨g, 0, none⟩ k _ (fun e => hk (by simp [e]))⟩ hW0 hBl (fun k e => by injection e with e; omega)
          obtain ⟨w4, Hw4⟩ : ∃ V, Hid (V = w3.setCell ⟨g, 0, none⟩ (.slice a3 m3 c3)) := ⟨_, (rfl : w3.setCell ⟨g, 0, none⟩ (.slice a3 m3 c3) = _)⟩
          have hgl3 : g < w3.heap.size := Nat.lt_of_lt_of_le hgl.2 d3.o.size
          rw [← Hw4.out] at HG4 HD4
          have HL4 : Hid ((⟨l3, d.inner⟩ :: l : List RingD).length = ln) := (by rw [← HLn.out]; rfl : (⟨l3, d.inner⟩ :: l : List RingD).length = ln)
          obtain ⟨l4, Hl4⟩ : ∃ q, Hid ((⟨l3, d.inner⟩ :: l : List RingD) = q) := ⟨_, (rfl : (⟨l3, d.inner⟩ :: l : List RingD) = _)⟩
          rw [Hl4.out] at HG4 HL4
          have hl4 : l4.length ≤ 3 := by have := HL4.out; omega
          clear D2 G2 D3 G3 d3 hO3 hX3 hP3 hb3 Hl3
          go_upto_region 9 with fail
          rw [← Hw4.out]
          clear k0 kf
          have G4 := HG4.out
          have D4 := HD4.out
          clear HG4 HD4
          go_wp2_with fail
          refine (once_any B a n c w0 _ D4.b hB D4.k hS hn 60 (by decide) (by decide)).mono ?_
          rintro e w7 ⟨t7, rfl, d7⟩
          have D7 := D4.then d7
          have G7 := G4.drawn d7 hBl
          clear d7 G4 D4
          cases t7
          · have HG : Hid (GrW w.heap.size w7 _ l4) := G7
            have HD : Hid (Drawn w0 w B a n c w7) := D7
            clear G7 D7
            go_wp2
            go_ret
            exact ⟨_, l4, rfl, by omega, HG.out, HD.out⟩
          · go_wp2_with fail
            refine (below_any B a n c w0 _ D7.b hB D7.k hS hn 3 (by decide) (by decide)).mono ?_
            rintro e w8 ⟨t, rfl, ⟨t0, t1⟩, d8⟩
            obtain ⟨q, Hq⟩ : ∃ m : Nat, Hid (t + 40 - 1 = m) := ⟨(t + 39).toNat, (by omega : t + 40 - 1 = ((t + 39).toNat : Int))⟩
            have hq41 : q ≤ 41 := by have := Hq.out; omega
            have hq1 : t + 40 - 1 = (q : Int) := Hq.out
            have D8 := D7.then d8
            have G8 := G7.drawn d8 hBl
            clear d8 D7 G7
            go_wp2
            try rw [hq1]
            clear hq1
            go_loopw [3, 6] (fun o ix wr => ∃ (i : Nat) (l : List RingD), ix = .int .i64 i ∧ i ≤ 41 ∧ l.length + i ≤ 44 ∧ GrW w.heap.size wr o l ∧ Drawn w0 w B a n c wr) (fun _ ix _ => (intOf ix).toNat)
            case atStart => exact ⟨q, l4, rfl, by omega, by omega, G8, D8⟩
            case round =>
              clear G8 D8
              obtain ⟨i, l, rfl, hi41, hl44, hG, hD⟩ := hrel
              obtain ⟨va, vc, _, rfl, _⟩ := hG.read
              have DX : Hid (Drawn w0 w B a n c wr) := hD
              have HG : Hid (GrW w.heap.size wr (.slice va l.length vc) l) := hG
              clear hD hG
              rcases i with _ | i
              · go_wp2
                go_ret
                exact ⟨_, l, rfl, by omega, HG.out, DX.out⟩
              · have hpos : (0 : Int) < ((i + 1 : Nat) : Int) := by omega
                obtain ⟨xs, ho, hrg⟩ := HG.out.out
                have HRG : Hid (∀ i (h : i < l.length), RgAt w.heap.size (wr.alloc (.cells #[.slice none 0 0, .bool false] 32)) (.slice va l.length vc) xs i l[i]) := fun i h => by
                  obtain ⟨a9, c9, bs9, q0, q1, q2, q3, q4⟩ := (hrg i h).out
                  exact ⟨a9, c9, bs9, q0, q1, q2, q3.bel ptE (bel_alloc (Bel.refl _) _), fun x hx => ⟨(q4 x hx).1, by have := (q4 x hx).2.1; simp; omega, (q4 x hx).2.2⟩⟩
                have HXl : Hid (xs.length = l.length * 2) := ho.1
                have HO : Hid ((wr.alloc (.cells #[.slice none 0 0, .bool false] 32)).ownsRow w.heap.size 32 2 (.slice va l.length vc) l.length xs) := ho.alloc _
                have HDa : Hid (Drawn w0 w B a n c (wr.alloc (.cells #[.slice none 0 0, .bool false] 32))) := DX.out.alcR _
                obtain ⟨ln, HLn⟩ : ∃ q, Hid (l.length = q) := ⟨_, (rfl : l.length = _)⟩
                have hln : ln ≤ 50 := by rw [← HLn.out]; omega
                rw [HLn.out] at HO HXl ⊢
                have hsX : w.heap.size ≤ wr.heap.size := DX.out.o.size
                clear hrg ho
                go_wp2_with (first
                  | (at_builtin; refine wpList_append_lies _ rfl _ _ 24 rfl w.heap.size 32 i0 (.agg #[.slice none 0 0, .bool false]) 2 32 Try.underlying24 hi0 hz0 hz1 hz2 rfl (by decide) _ _ _ rfl HO.out ⟨wr.heap.size, 0, none⟩ 1 1 [.slice none 0 0, .bool false] rfl rfl (World.news_of_block (cs := #[.slice none 0 0, .bool false]) (t := 32) (fr := (0, 0)) (heap_alloc_new _ _)) (by simp [Value.oneCell']) (by decide) (by unfold maxLen; omega) (by omega) (by simp; omega) (wr.heap.size + 1) (by simp) ?_)
                  | go_in)
                intro g cap wN hown hgrow hat _
                have HGN : Hid (GrW w.heap.size wN (.slice (some ⟨g, 0, none⟩) (ln + 1) cap) (l ++ [⟨[], false⟩])) := by
                  have hat' : (Value.slice va ln vc).ownBlock = some g ∨ g = (wr.alloc (.cells #[.slice none 0 0, .bool false] 32)).heap.size := by simpa using hat
                  exact GrW.add (v := .slice va l.length vc) (fun i h => HRG.out i h) (by rw [HLn.out]; exact HXl.out) ⟨[], false⟩ none 0 [] (by simp) Sl.nil (fun x hx => nomatch hx) (by rw [HLn.out]; exact hown) (by rw [HLn.out]; exact hgrow) (by rw [HLn.out]; exact hatO hat')
                have HDN : Hid (Drawn w0 w B a n c wN) := HDa.out.grown hgrow hW0 hBl (fun q e => (HO.out.lt q e).1)
                clear hown hgrow hat HRG HO HDa HG DX
                go_wp2
                go_roundw
                case rel => exact ⟨i, l ++ [⟨[], false⟩], by go_num, by omega, by simp; omega, HGN.out, HDN.out⟩
                case measure => simp [intOf]
    · have hpos : (0 : Int) < ((i + 1 : Nat) : Int) := by omega
      go_wp2_with fail
      refine (below_any B a n c w0 _ hD.b hB hD.k hS hn 3 (by decide) (by decide)).mono ?_
      rintro e w2 ⟨x, rfl, ⟨x0, x1⟩, d2⟩
      have D2 := hD.then d2
      have G2 := hG.drawn d2 hBl
      clear hD hG d2
      go_wp2_with fail
      refine (below_any B a n c w0 _ D2.b hB D2.k hS hn 3 (by decide) (by decide)).mono ?_
      rintro e w3 ⟨y, rfl, ⟨y0, y1⟩, d3⟩
      have D3 := D2.then d3
      have G3 := G2.drawn d3 hBl
      clear D2 G2 d3
      have hA3 : Bel w3 (w3.alloc (.cells #[.int .i64 10, .int .i64 30, .int .i64 80] 2)) := bel_alloc (Bel.refl _) _
      have XL : Blk (w3.alloc (.cells #[.int .i64 10, .int .i64 30, .int .i64 80] 2)) w3.heap.size [.int .i64 10, .int .i64 30, .int .i64 80] := Blk.new w3 [.int .i64 10, .int .i64 30, .int .i64 80] _
      have hl3 := XL.lt
      have hn3 : w3.heap.size ≠ B := by have := D3.k.lt; omega
      go_wp2_with fail
      refine (below_any B a n c w0 _ (bel_step D3.b hA3) hB (D3.k.bel hA3) hS hn 3 (by decide) (by decide)).mono ?_
      rintro e w4 ⟨z, rfl, ⟨z0, z1⟩, d4⟩
      obtain ⟨q, rfl⟩ : ∃ m : Nat, z = m := ⟨z.toNat, by omega⟩
      obtain ⟨r, ⟨hr0, hr1⟩, hr⟩ : ∃ r : Int, (1 ≤ r ∧ r ≤ 80) ∧ w4.cell? ⟨w3.heap.size, q, none⟩ = some (.int .i64 r) := by
        rcases (show q = 0 ∨ q = 1 ∨ q = 2 by omega) with rfl | rfl | rfl
        · exact ⟨10, by decide, (d4.o.cell _ _ hl3 hn3).trans (XL.cell 0 (by simp))⟩
        · exact ⟨30, by decide, (d4.o.cell _ _ hl3 hn3).trans (XL.cell 1 (by simp))⟩
        · exact ⟨80, by decide, (d4.o.cell _ _ hl3 hn3).trans (XL.cell 2 (by simp))⟩
      have D4 := (D3.bel hA3).then d4
      have G4 := (G3.bel hA3).drawn d4 hBl
      clear D3 G3 d4 XL hA3 hl3
      go_wp2_with fail
      refine (drawRing_any B a n c w0 _ D4.b hB D4.k hS hn (40 * x) (40 * y) r (by omega) (by omega) (by omega) (by omega) hr0 hr1).mono ?_
      rintro e w5 ⟨a5, c5, l5, bs5, rfl, hl5, hp5, hb5, d5⟩
      have D5 := D4.then d5
      have G5 := G4.drawn d5 hBl
      have hs4 := D4.o.size
      have HN5 : Hid (∀ x ∈ bs5, w.heap.size ≤ x ∧ x < w5.heap.size ∧ (Value.slice va l.length vc).ownBlock ≠ some x) := fun x hx => ⟨by have := hb5 x hx; omega, hp5.lt ptE x hx, fun e => by
        obtain ⟨xs, ho, _⟩ := G4.out
        have := (ho.lt x e).2
        have := hb5 x hx
        omega⟩
      obtain ⟨n5, Hn5⟩ : ∃ q, Hid (l5.length = q) := ⟨_, (rfl : l5.length = _)⟩
      rw [Hn5.out]
      clear D4 G4 hb5
      go_wp2_with fail
      refine (once_any B a n c w0 _ D5.b hB D5.k hS hn 3 (by decide) (by decide)).mono ?_
      rintro e w6 ⟨inn, rfl, d6⟩
      have DX : Hid (Drawn w0 w B a n c w6) := D5.then d6
      have HG : Hid (GrW w.heap.size w6 (.slice va l.length vc) l) := G5.drawn d6 hBl
      have HN6 : Hid (∀ x ∈ bs5, w.heap.size ≤ x ∧ x < w6.heap.size ∧ (Value.slice va l.length vc).ownBlock ≠ some x) := fun x hx => ⟨(HN5.out x hx).1, Nat.lt_of_lt_of_le (HN5.out x hx).2.1 d6.o.size, (HN5.out x hx).2.2⟩
      have HP6 : Hid (PtL w6 a5 l5 bs5) := hp5.alike ptE fun x hx => by
        have h1 := HN5.out x hx
        have hne : x ≠ B := by have := h1.1; omega
        exact ⟨Nat.lt_of_lt_of_le h1.2.1 d6.o.size, fun o => d6.o.cell x o h1.2.1 hne, fun o => d6.o.froz x o h1.2.1 hne⟩
      clear D5 G5 d6 hp5 hr HN5
      obtain ⟨xs, ho, hrg⟩ := HG.out.out
      have HRG : Hid (∀ i (h : i < l.length), RgAt w.heap.size (w6.alloc (.cells #[.slice a5 n5 c5, .bool inn] 32)) (.slice va l.length vc) xs i l[i]) := fun i h => by
        obtain ⟨a9, c9, bs9, q0, q1, q2, q3, q4⟩ := (hrg i h).out
        exact ⟨a9, c9, bs9, q0, q1, q2, q3.bel ptE (bel_alloc (Bel.refl _) _), fun x hx => ⟨(q4 x hx).1, by have := (q4 x hx).2.1; simp; omega, (q4 x hx).2.2⟩⟩
      have HXl : Hid (xs.length = l.length * 2) := ho.1
      have HO : Hid ((w6.alloc (.cells #[.slice a5 n5 c5, .bool inn] 32)).ownsRow w.heap.size 32 2 (.slice va l.length vc) l.length xs) := ho.alloc _
      have HDa : Hid (Drawn w0 w B a n c (w6.alloc (.cells #[.slice a5 n5 c5, .bool inn] 32))) := DX.out.alcR _
      obtain ⟨ln, HLn⟩ : ∃ q, Hid (l.length = q) := ⟨_, (rfl : l.length = _)⟩
      have hln : ln ≤ 50 := by rw [← HLn.out]; omega
      rw [HLn.out] at HO HXl ⊢
      have hsX : w.heap.size ≤ w6.heap.size := DX.out.o.size
      clear hrg ho
      go_wp2_with (first
        | (at_builtin; refine wpList_append_lies _ rfl _ _ 24 rfl w.heap.size 32 i0 (.agg #[.slice none 0 0, .bool false]) 2 32 Try.underlying24 hi0 hz0 hz1 hz2 rfl (by decide) _ _ _ rfl HO.out ⟨w6.heap.size, 0, none⟩ 1 1 [.slice a5 n5 c5, .bool inn] rfl rfl (World.news_of_block (cs := #[.slice a5 n5 c5, .bool inn]) (t := 32) (fr := (0, 0)) (heap_alloc_new _ _)) (by simp [Value.oneCell']) (by decide) (by unfold maxLen; omega) (by omega) (by simp; omega) (w6.heap.size + 1) (by simp) ?_)
        | go_in)
      intro g cap wN hown hgrow hat _
      have HGN : Hid (GrW w.heap.size wN (.slice (some ⟨g, 0, none⟩) (ln + 1) cap) (l ++ [⟨l5, inn⟩])) := by
        have hat' : (Value.slice va ln vc).ownBlock = some g ∨ g = (w6.alloc (.cells #[.slice a5 n5 c5, .bool inn] 32)).heap.size := by simpa using hat
        exact GrW.add (v := .slice va l.length vc) (fun i h => HRG.out i h) (by rw [HLn.out]; exact HXl.out) ⟨l5, inn⟩ a5 c5 bs5 (show l5.length ≤ 2001 by omega) (HP6.out.bel ptE (bel_alloc (Bel.refl _) _)) (fun x hx => ⟨(HN6.out x hx).1, by have := (HN6.out x hx).2.1; simp; omega, (HN6.out x hx).2.2⟩) (by rw [HLn.out]; show wN.ownsRow _ _ _ _ _ (xs ++ [.slice a5 l5.length c5, .bool inn]); rw [Hn5.out]; exact hown) (by rw [HLn.out]; exact hgrow) (by rw [HLn.out]; exact hatO hat')
      have HDN : Hid (Drawn w0 w B a n c wN) := HDa.out.grown hgrow hW0 hBl (fun q e => (HO.out.lt q e).1)
      clear hown hgrow hat HRG HO HDa HG DX
      go_wp2
      go_roundw
      case rel => exact ⟨i, l ++ [⟨l5, inn⟩], by go_num, by omega, by simp; omega, HGN.out, HDN.out⟩
      case measure => simp [intOf]
end Go.Proofs.Ytkpgcnfokohhiaa

namespace Go.Proofs.Ytkpgcnfokohhiaa
open Go.RowKit

theorem GrW.low {lo lo' : Nat} {w : World} {v : Value} {l : List RingD} (h : GrW lo w v l) (hl : lo' ≤ lo) : GrW lo' w v l := by
  obtain ⟨xs, h1, h2⟩ := h.out
  refine ⟨xs, own_low h1 hl, fun i hi => ?_⟩
  obtain ⟨a, c, bs, e0, e1, hl', hp, hb⟩ := (h2 i hi).out
  exact ⟨a, c, bs, e0, e1, hl', hp, fun x hx => ⟨Nat.le_trans hl (hb x hx).1, (hb x hx).2⟩⟩
theorem GrW.far {lo C : Nat} {w w' : World} {v : Value} {l : List RingD} (h : GrW lo w v l) (hg : w.grownBy w' (some C)) (hC : C < lo) : GrW lo w' v l :=
  h.keep (fun _ ho => own_kept ho hg hC) fun bs hs => grown_alike hg (fun x hx => (hs x hx).2.1) fun hx => by have := (hs C hx).1; omega
theorem setCell_grownR (w : World) (g o : Nat) (u : Value) : w.grownBy (w.setCell ⟨g, o, none⟩ u) (some g) :=
  ⟨rfl, rfl, rfl, by simp, fun k _ hk => heap_setCell_other w ⟨g, o, none⟩ k u (fun e => hk (by simp [e]))⟩
theorem grown_drewR (w : World) (r : Option Nat) : w.grownBy w.drew r := ⟨rfl, rfl, rfl, Nat.le_refl _, fun _ _ _ => rfl⟩
theorem Blk.onlyR {w w' w0 : World} {B g : Nat} {vs : List Value} {a : Option Addr} {n c : Nat} (h : Blk w g vs) (d : Drawn w0 w B a n c w') (hn : g ≠ B) : Blk w' g vs :=
  ⟨Nat.lt_of_lt_of_le h.lt d.o.size, fun j hj => by rw [d.o.cell g j h.lt hn]; exact h.cell j hj, fun j => by rw [d.o.froz g j h.lt hn]; exact h.free j⟩

theorem Blk.keptR {w w' : World} {g : Nat} {vs : List Value} {row : Option Nat} (h : Blk w g vs) (hg : w.grownBy w' row) (hn : some g ≠ row) : Blk w' g vs := by
  have e := hg.block g h.lt hn
  exact ⟨Nat.lt_of_lt_of_le h.lt hg.size, fun j hj => by rw [World.cell?_of_block (a := ⟨g, j, none⟩) e]; exact h.cell j hj, fun j => by rw [World.frozen?_of_block (a := ⟨g, j, none⟩) e]; exact h.free j⟩

set_option maxRecDepth 100000 in
set_option maxHeartbeats 1000000 in
theorem drawNesting_any (a : Option Addr) (n c : Nat) (w : World) (hS : Bts w a n) (hn : n ≤ 1048576) :
    Calls Try.prog 11 #[.slice a n c] w fun e w' => ∃ (v : Value) (l : List RingD), e = .returned v ∧ l.length ≤ 45 ∧ GrW w.heap.size w' v l ∧ Bel w w' := by
  go_enter Try.func11, Try.ntmps11
  go_wp2_with fail
  refine (l1New_any a n c w hS hn).mono ?_
  rintro e w1 ⟨rfl, hb1, k1⟩
  go_wp2_with fail
  refine (drawRings_any _ a n c w w1 hb1 (Nat.le_refl _) k1 hS hn).mono ?_
  rintro e w2 ⟨v, l, rfl, hl, hG, d2⟩
  obtain ⟨va, vc, _, rfl, _⟩ := hG.read
  have HG : Hid (GrW w.heap.size w2 (.slice va l.length vc) l) := hG.low hb1.out.size
  have hB2 := d2.b
  clear hG d2
  go_wp2
  go_ret
  exact ⟨_, l, rfl, hl, HG.out, hB2⟩

set_option maxRecDepth 100000 in
set_option maxHeartbeats 4000000 in
theorem drawInside_any (a : Option Addr) (n c : Nat) (w : World) (hS : Bts w a n) (hn : n ≤ 1048576) :
    Calls Try.prog 6 #[.slice a n c] w fun e w' => ∃ (v : Value) (l : List RingD) (px py : Int), e = .returned (.tuple #[v, pt px py]) ∧ l.length ≤ 45 ∧ GrW w.heap.size w' v l ∧ Bel w w' := by
  obtain ⟨W, HW⟩ : ∃ W, Hid (W = w.alloc (.cells #[.int .i64 0, .int .i64 0] 26)) := ⟨_, (rfl : w.alloc (.cells #[.int .i64 0, .int .i64 0] 26) = _)⟩
  have hW : Bel w W := by rw [HW.out]; exact bel_alloc (Bel.refl _) _
  have Z0 : Pa W w.heap.size 0 0 := by rw [HW.out]; exact Pa.new w 0 0 _
  have HS := hS.bel hW
  go_enter Try.func6, Try.ntmps6
  go_wp2_with fail
  rw [← HW.out]
  refine (l1New_any a n c W HS hn).mono ?_
  rintro e w1 ⟨rfl, hb1, k1⟩
  go_wp2_with fail
  refine (drawRings_any _ a n c W w1 hb1 (Nat.le_refl _) k1 HS hn).mono ?_
  rintro e w2 ⟨v, l, rfl, hl45, hG, d2⟩
  obtain ⟨va, vc, _, rfl, _⟩ := hG.read
  have hRlo : w.heap.size < w1.heap.size := by have := Z0.lt; have := hb1.out.size; omega
  have hBlo : W.heap.size < w1.heap.size := k1.lt
  go_wp2_with fail
  refine (below_any _ a n c W w2 d2.b (Nat.le_refl _) d2.k HS hn 200 (by decide) (by decide)).mono ?_
  rintro e w3 ⟨x, rfl, ⟨x0, x1⟩, d3⟩
  have D3 := d2.then d3
  have G3 := hG.drawn d3 hBlo
  clear hG d2 d3
  go_wp2_with fail
  refine (below_any _ a n c W w3 D3.b (Nat.le_refl _) D3.k HS hn 200 (by decide) (by decide)).mono ?_
  rintro e w4 ⟨y, rfl, ⟨y0, y1⟩, d4⟩
  have D4 := D3.then d4
  have G4 := G3.drawn d4 hBlo
  clear G3 D3 d4
  obtain ⟨U, HU⟩ : ∃ U, Hid (U = w4.alloc (.cells #[.int .i64 (x - 60), .int .i64 (y - 60)] 26)) := ⟨_, (rfl : w4.alloc (.cells #[.int .i64 (x - 60), .int .i64 (y - 60)] 26) = _)⟩
  have hbU : Bel w4 U := by rw [HU.out]; exact bel_alloc (Bel.refl _) _
  have XP : Blk U w4.heap.size [.int .i64 (x - 60), .int .i64 (y - 60)] := by rw [HU.out]; exact Blk.new w4 [.int .i64 (x - 60), .int .i64 (y - 60)] _
  have DU := D4.bel hbU
  have GU := G4.bel hbU
  have hPB : w4.heap.size ≠ W.heap.size := by have := D4.k.lt; omega
  have hPR : w.heap.size ≠ w4.heap.size := by have := D4.o.size; omega
  have HG4 : Hid (GrW w1.heap.size w4 (.slice va l.length vc) l) := G4
  have HD44 : Hid (Drawn W w4 W.heap.size a n c w4) := ⟨D4.b, OnlyB.refl _ _, D4.k⟩
  have HP4 : Hid (w1.heap.size ≤ w4.heap.size) := D4.o.size
  clear D4 G4
  go_upto_region 4 with fail
  rw [← HU.out]
  go_wp2_with fail
  refine (once_any _ a n c W U DU.b (Nat.le_refl _) DU.k HS hn 4 (by decide) (by decide)).mono ?_
  rintro e w5 ⟨t5, rfl, d5⟩
  have D5 := DU.then d5
  have HG : Hid (GrW w1.heap.size w5 (.slice va l.length vc) l) := GU.drawn d5 hBlo
  have XP5 := XP.onlyR d5 hPB
  have HD45 : Hid (Drawn W w4 W.heap.size a n c w5) := (HD44.out.bel hbU).then d5
  have p0 : w5.cell? ⟨w4.heap.size, 0, none⟩ = some (.int .i64 (x - 60)) := XP5.cell 0 (by simp)
  have p1 : w5.cell? ⟨w4.heap.size, 1, none⟩ = some (.int .i64 (y - 60)) := XP5.cell 1 (by simp)
  have pl := XP5.lt
  clear DU GU d5
  cases t5
  · have Z9 := Z0.bel D5.b
    have z0 := Z9.c0
    have z1 := Z9.c1
    have f0 := Z9.fr 0
    have f1 := Z9.fr 1
    have zl := Z9.lt
    have HB9 : Hid (Bel W w5) := D5.b
    have HG9 : Hid (∀ W', w5.grownBy W' (some w.heap.size) → GrW w.heap.size W' (.slice va l.length vc) l ∧ Bel w W') := fun W' hg => ⟨(HG.out.far hg hRlo).low (by omega), bel_grow (bel_step hW HB9.out) hg (fun k e => by injection e with e; omega)⟩
    go_upto_region 11 with fail
    clear HG HB9 Z9
    go_big_region
    go_wp2
    refine bodyPost_ret (v := .tuple #[.slice va l.length vc, pt (x - 60) (y - 60)]) (by simp [results, Try.results6, go_sem, z0, z1]) rfl ?_
    refine ⟨_, l, _, _, rfl, hl45, HG9.out _ ?_⟩
    with_reducible repeat (first | exact World.grownBy.refl _ _ | refine World.grownBy.trans ?_ (grown_drewR _ _) | refine World.grownBy.trans ?_ (setCell_grownR _ _ _ _))
  · rcases l with _ | ⟨d, l⟩
    · have Z9 := Z0.bel D5.b
      have z0 := Z9.c0
      have z1 := Z9.c1
      have f0 := Z9.fr 0
      have f1 := Z9.fr 1
      have zl := Z9.lt
      have HB9 : Hid (Bel W w5) := D5.b
      have HG9 : Hid (∀ W', w5.grownBy W' (some w.heap.size) → GrW w.heap.size W' (.slice va ([] : List RingD).length vc) [] ∧ Bel w W') := fun W' hg => ⟨(HG.out.far hg hRlo).low (by omega), bel_grow (bel_step hW HB9.out) hg (fun k e => by injection e with e; omega)⟩
      go_upto_region 11 with fail
      clear HG HB9 Z9
      go_big_region
      go_wp2
      refine bodyPost_ret (v := .tuple #[.slice va ([] : List RingD).length vc, pt (x - 60) (y - 60)]) (by simp [results, Try.results6, go_sem, z0, z1]) rfl ?_
      refine ⟨_, [], _, _, rfl, hl45, HG9.out _ ?_⟩
      with_reducible repeat (first | exact World.grownBy.refl _ _ | refine World.grownBy.trans ?_ (grown_drewR _ _) | refine World.grownBy.trans ?_ (setCell_grownR _ _ _ _))
    · obtain ⟨g, cap, hv⟩ : ∃ g cap, (.slice va (d :: l).length vc : Value) = .slice (some ⟨g, 0, none⟩) (d :: l).length cap := by
        obtain ⟨xs, h1, _⟩ := HG.out.out
        rcases h1.2 with ⟨_, h0⟩ | ⟨g, cap, cur, h1, _⟩
        · simp at h0
        · exact ⟨g, cap, h1⟩
      injection hv with hva _ hvc
      subst hva hvc
      obtain ⟨L, HL⟩ : ∃ q, Hid ((d :: l : List RingD) = q) := ⟨_, (rfl : (d :: l : List RingD) = _)⟩
      obtain ⟨a0, c0, bs0, hgl, hR0, hp0⟩ : ∃ a0 c0 bs0, g < w5.heap.size ∧ w5.cell? ⟨g, 0, none⟩ = some (.slice a0 d.row.length c0) ∧ PtL w5 a0 d.row bs0 := by
        obtain ⟨xs, h1, h2⟩ := HG.out.out
        obtain ⟨a0, c0, bs0, e0, _, _, hp, _⟩ := (h2 0 (by simp)).out
        exact ⟨a0, c0, bs0, (h1.lt g rfl).2, by rw [h1.cellAt 0 (by rw [List.length_cons]; omega)]; exact e0, hp⟩
      have hl1 : (0 : Int) < ((d :: l).length : Int) := by simp
      obtain ⟨ln, HLn⟩ : ∃ q, Hid ((d :: l).length = q) := ⟨_, (rfl : (d :: l).length = _)⟩
      rw [HLn.out] at hl1 hl45
      rw [HLn.out, HL.out] at HG
      rw [HLn.out]
      obtain ⟨m, Hm⟩ : ∃ q, Hid (d.row.length = q) := ⟨_, (rfl : d.row.length = _)⟩
      rw [Hm.out] at hR0
      by_cases hm1 : (1 : Int) < (m : Int)
      · have hmb : decide ((1 : Int) < (m : Int)) = true := by simp only [hm1, decide_true]
        have hm2 : 1 < d.row.length := by rw [Hm.out]; omega
        obtain ⟨b', off', f', rfl, hb', hx⟩ := hp0.out (k := 0) (by omega)
        obtain ⟨_, _, _, q0, q1⟩ := hx 0 (by omega)
        obtain ⟨_, _, _, r0, r1⟩ := hx 1 hm2
        obtain ⟨X0, HX0⟩ : ∃ q, Hid ((d.row[0]'(by omega)).x = q) := ⟨_, (rfl : (d.row[0]'(by omega)).x = _)⟩
        obtain ⟨Y0, HY0⟩ : ∃ q, Hid ((d.row[0]'(by omega)).y = q) := ⟨_, (rfl : (d.row[0]'(by omega)).y = _)⟩
        obtain ⟨X1, HX1⟩ : ∃ q, Hid ((d.row[1]'(by omega)).x = q) := ⟨_, (rfl : (d.row[1]'(by omega)).x = _)⟩
        obtain ⟨Y1, HY1⟩ : ∃ q, Hid ((d.row[1]'(by omega)).y = q) := ⟨_, (rfl : (d.row[1]'(by omega)).y = _)⟩
        rw [HX0.out, Nat.zero_mul, Nat.add_zero] at q0
        rw [HY0.out, Nat.zero_mul, Nat.add_zero] at q1
        rw [HX1.out, Nat.one_mul] at r0
        rw [HY1.out, Nat.one_mul] at r1
        obtain ⟨w6, Hw6⟩ : ∃ V, Hid (V = w5.alloc (.cells #[.int .i64 X0, .int .i64 Y0] 26)) := ⟨_, (rfl : w5.alloc (.cells #[.int .i64 X0, .int .i64 Y0] 26) = _)⟩
        have hb6 : Bel w5 w6 := by rw [Hw6.out]; exact bel_alloc (Bel.refl _) _
        have XQ6 : Blk w6 w5.heap.size [.int .i64 X0, .int .i64 Y0] := by rw [Hw6.out]; exact Blk.new w5 [.int .i64 X0, .int .i64 Y0] _
        obtain ⟨w7, Hw7⟩ : ∃ V, Hid (V = w6.alloc (.cells #[.int .i64 X1, .int .i64 Y1] 26)) := ⟨_, (rfl : w6.alloc (.cells #[.int .i64 X1, .int .i64 Y1] 26) = _)⟩
        have hb7 : Bel w6 w7 := by rw [Hw7.out]; exact bel_alloc (Bel.refl _) _
        have XR7 : Blk w7 w6.heap.size [.int .i64 X1, .int .i64 Y1] := by rw [Hw7.out]; exact Blk.new w6 [.int .i64 X1, .int .i64 Y1] _
        have XQ7 := XQ6.bel hb7
        have XP7 := XP5.bel (bel_step hb6 hb7)
        have hR6 := bel_cellM hb6 hgl hR0
        have r06 := bel_cellM hb6 hb' r0
        have r16 := bel_cellM hb6 hb' r1
        have gl6 : g < w6.heap.size := bel_lt hb6 hgl
        have bl6 : b' < w6.heap.size := bel_lt hb6 hb'
        have hm0 : (0 : Int) < (m : Int) := by omega
        have HD47 : Hid (Drawn W w4 W.heap.size a n c w7) := HD45.out.bel (bel_step hb6 hb7)
        have a0 : w7.cell? ⟨w5.heap.size, 0, none⟩ = some (.int .i64 X0) := XQ7.cell 0 (by simp)
        have a1 : w7.cell? ⟨w5.heap.size, 1, none⟩ = some (.int .i64 Y0) := XQ7.cell 1 (by simp)
        have al := XQ7.lt
        have e0 : w7.cell? ⟨w6.heap.size, 0, none⟩ = some (.int .i64 X1) := XR7.cell 0 (by simp)
        have e1 : w7.cell? ⟨w6.heap.size, 1, none⟩ = some (.int .i64 Y1) := XR7.cell 1 (by simp)
        have el := XR7.lt
        have c0 : w7.cell? ⟨w4.heap.size, 0, none⟩ = some (.int .i64 (x - 60)) := XP7.cell 0 (by simp)
        have c1 : w7.cell? ⟨w4.heap.size, 1, none⟩ = some (.int .i64 (y - 60)) := XP7.cell 1 (by simp)
        have cf := XP7.free
        have cl := XP7.lt
        clear hx
        go_upto_region 6 with fail
        rw [← Hw6.out]
        clear q0 q1 hR0
        go_upto_region 7 with fail
        rw [← Hw7.out]
        clear r0 r1 r06 r16 hR6 p0 p1
        go_upto_region 8 with fail
        generalize wrap64 ((wrap64 (X0 + X1)).tdiv 2) = E1
        generalize wrap64 ((wrap64 (Y0 + Y1)).tdiv 2) = E2
        obtain ⟨w8, Hw8⟩ : ∃ V, Hid (V = (w7.setCell ⟨w4.heap.size, 0, none⟩ (.int .i64 E1)).setCell ⟨w4.heap.size, 1, none⟩ (.int .i64 E2)) := ⟨_, (rfl : (w7.setCell ⟨w4.heap.size, 0, none⟩ (.int .i64 E1)).setCell ⟨w4.heap.size, 1, none⟩ (.int .i64 E2) = _)⟩
        have hg8 : w7.grownBy w8 (some w4.heap.size) := by rw [Hw8.out]; exact (setCell_grownR _ _ _ _).trans (setCell_grownR _ _ _ _)
        have HD48 : Hid (Drawn W w4 W.heap.size a n c w8) := HD47.out.grown hg8 (by have := hb1.out.size; have := HP4.out; omega) (by have := HP4.out; omega) (fun k e => by injection e with e; omega)
        have XQ8 : Blk w8 w5.heap.size [.int .i64 X0, .int .i64 Y0] := XQ7.keptR hg8 (fun e => by injection e with e; have := XP5.lt; omega)
        have P8 : w8.cell? ⟨w4.heap.size, 0, none⟩ = some (.int .i64 E1) ∧ w8.cell? ⟨w4.heap.size, 1, none⟩ = some (.int .i64 E2) ∧ ∀ j, w8.frozen? ⟨w4.heap.size, j, none⟩ = false := by
          rw [Hw8.out]
          refine ⟨?_, ?_, fun j => by rw [World.frozen?_setCell, World.frozen?_setCell]; exact cf j⟩
          · rw [World.cell?_setCell_other _ _ _ _ (by simp)]; exact World.cell?_setCell_same _ _ _ c0
          · exact World.cell?_setCell_same _ _ _ (by rw [World.cell?_setCell_other _ _ _ _ (by simp)]; exact c1)
        have hl8 : w4.heap.size < w8.heap.size := Nat.lt_of_lt_of_le cl hg8.size
        have hQB : w5.heap.size ≠ W.heap.size := by have := D5.k.lt; omega
        have hQl := XQ8.lt
        rw [← Hw8.out]
        clear a0 a1 e0 e1 c0 c1 cf al el XQ6 XQ7 XR7 XP7 HD47 hg8 XP5 HG XP
        go_wp2_with fail
        refine (once_any _ a n c W w8 HD48.out.b (Nat.le_refl _) HD48.out.k HS hn 3 (by decide) (by decide)).mono ?_
        rintro e w9 ⟨t9, rfl, d9⟩
        have HD49 := HD48.out.then d9
        have HB_ : Hid (Bel W w9) := HD49.b
        have HG : Hid (GrW w1.heap.size w9 (.slice (some ⟨g, 0, none⟩) ln vc) L) := by
          have := HG4.out.drawn HD49 hBlo
          rw [HLn.out, HL.out] at this
          exact this
        have p0 : w9.cell? ⟨w4.heap.size, 0, none⟩ = some (.int .i64 E1) := (d9.o.cell _ _ hl8 hPB).trans P8.1
        have p1 : w9.cell? ⟨w4.heap.size, 1, none⟩ = some (.int .i64 E2) := (d9.o.cell _ _ hl8 hPB).trans P8.2.1
        have pf : ∀ j, w9.frozen? ⟨w4.heap.size, j, none⟩ = false := fun j => (d9.o.froz _ _ hl8 hPB).trans (P8.2.2 j)
        have pl : w4.heap.size < w9.heap.size := Nat.lt_of_lt_of_le hl8 d9.o.size
        have q1 : w9.cell? ⟨w5.heap.size, 1, none⟩ = some (.int .i64 Y0) := (d9.o.cell _ _ hQl hQB).trans (XQ8.cell 1 (by simp))
        have ql : w5.heap.size < w9.heap.size := Nat.lt_of_lt_of_le hQl d9.o.size
        clear d9 P8 XQ8
        cases t9
        · have Z9 := Z0.bel HB_.out
          have z0 := Z9.c0
          have z1 := Z9.c1
          have f0 := Z9.fr 0
          have f1 := Z9.fr 1
          have zl := Z9.lt
          have HB9 : Hid (Bel W w9) := HB_.out
          have HG9 : Hid (∀ W', w9.grownBy W' (some w.heap.size) → GrW w.heap.size W' (.slice (some ⟨g, 0, none⟩) ln vc) L ∧ Bel w W') := fun W' hg => ⟨(HG.out.far hg hRlo).low (by omega), bel_grow (bel_step hW HB9.out) hg (fun k e => by injection e with e; omega)⟩
          go_upto_region 11 with fail
          clear HG HB9 Z9
          go_big_region
          go_wp2
          refine bodyPost_ret (v := .tuple #[.slice (some ⟨g, 0, none⟩) ln vc, pt E1 E2]) (by simp [results, Try.results6, go_sem, z0, z1]) rfl ?_
          refine ⟨_, L, _, _, rfl, by rw [← HL.out, HLn.out]; exact hl45, HG9.out _ ?_⟩
          with_reducible repeat (first | exact World.grownBy.refl _ _ | refine World.grownBy.trans ?_ (grown_drewR _ _) | refine World.grownBy.trans ?_ (setCell_grownR _ _ _ _))
        · obtain ⟨wA, HwA⟩ : ∃ V, Hid (V = (w9.setCell ⟨w4.heap.size, 0, none⟩ (.int .i64 (-100))).setCell ⟨w4.heap.size, 1, none⟩ (.int .i64 Y0)) := ⟨_, (rfl : (w9.setCell ⟨w4.heap.size, 0, none⟩ (.int .i64 (-100))).setCell ⟨w4.heap.size, 1, none⟩ (.int .i64 Y0) = _)⟩
          have hgA : w9.grownBy wA (some w4.heap.size) := by rw [HwA.out]; exact (setCell_grownR _ _ _ _).trans (setCell_grownR _ _ _ _)
          have HD4A := HD49.grown hgA (by have := hb1.out.size; have := HP4.out; omega) (by have := HP4.out; omega) (fun k e => by injection e with e; omega)
          have HB_ : Hid (Bel W wA) := HD4A.b
          have HG : Hid (GrW w1.heap.size wA (.slice (some ⟨g, 0, none⟩) ln vc) L) := by
            have := HG4.out.drawn HD4A hBlo
            rw [HLn.out, HL.out] at this
            exact this
          have pA : wA.cell? ⟨w4.heap.size, 0, none⟩ = some (.int .i64 (-100)) ∧ wA.cell? ⟨w4.heap.size, 1, none⟩ = some (.int .i64 Y0) := by
            rw [HwA.out]
            refine ⟨?_, ?_⟩
            · rw [World.cell?_setCell_other _ _ _ _ (by simp)]; exact World.cell?_setCell_same _ _ _ p0
            · exact World.cell?_setCell_same _ _ _ (by rw [World.cell?_setCell_other _ _ _ _ (by simp)]; exact p1)
          have plA : w4.heap.size < wA.heap.size := Nat.lt_of_lt_of_le pl hgA.size
          have hQP : w5.heap.size ≠ w4.heap.size := by have := HD45.out.o.size; have := hl8; omega
          go_upto_region 11 with fail
          rw [← HwA.out]
          obtain ⟨pA0, pA1⟩ := pA
          clear p0 p1 pf q1 pl ql
          have Z9 := Z0.bel HB_.out
          have z0 := Z9.c0
          have z1 := Z9.c1
          have f0 := Z9.fr 0
          have f1 := Z9.fr 1
          have zl := Z9.lt
          have HB9 : Hid (Bel W wA) := HB_.out
          have HG9 : Hid (∀ W', wA.grownBy W' (some w.heap.size) → GrW w.heap.size W' (.slice (some ⟨g, 0, none⟩) ln vc) L ∧ Bel w W') := fun W' hg => ⟨(HG.out.far hg hRlo).low (by omega), bel_grow (bel_step hW HB9.out) hg (fun k e => by injection e with e; omega)⟩
          clear HG HB9 Z9
          go_big_region
          go_wp2
          refine bodyPost_ret (v := .tuple #[.slice (some ⟨g, 0, none⟩) ln vc, pt (-100) Y0]) (by simp [results, Try.results6, go_sem, z0, z1]) rfl ?_
          refine ⟨_, L, _, _, rfl, by rw [← HL.out, HLn.out]; exact hl45, HG9.out _ ?_⟩
          with_reducible repeat (first | exact World.grownBy.refl _ _ | refine World.grownBy.trans ?_ (grown_drewR _ _) | refine World.grownBy.trans ?_ (setCell_grownR _ _ _ _))
      · have hmb : decide ((1 : Int) < (m : Int)) = false := by simp only [hm1, decide_false]
        have Z9 := Z0.bel D5.b
        have z0 := Z9.c0
        have z1 := Z9.c1
        have f0 := Z9.fr 0
        have f1 := Z9.fr 1
        have zl := Z9.lt
        have HB9 : Hid (Bel W w5) := D5.b
        have HG9 : Hid (∀ W', w5.grownBy W' (some w.heap.size) → GrW w.heap.size W' (.slice (some ⟨g, 0, none⟩) ln vc) L ∧ Bel w W') := fun W' hg => ⟨(HG.out.far hg hRlo).low (by omega), bel_grow (bel_step hW HB9.out) hg (fun k e => by injection e with e; omega)⟩
        go_upto_region 11 with fail
        clear HG HB9 Z9
        go_big_region
        go_wp2
        refine bodyPost_ret (v := .tuple #[.slice (some ⟨g, 0, none⟩) ln vc, pt (x - 60) (y - 60)]) (by simp [results, Try.results6, go_sem, z0, z1]) rfl ?_
        refine ⟨_, L, _, _, rfl, by rw [← HL.out, HLn.out]; exact hl45, HG9.out _ ?_⟩
        with_reducible repeat (first | exact World.grownBy.refl _ _ | refine World.grownBy.trans ?_ (grown_drewR _ _) | refine World.grownBy.trans ?_ (setCell_grownR _ _ _ _))
end Go.Proofs.Ytkpgcnfokohhiaa
