/-
  What the model draws for Clip: any row, any box of numbers of 64 bits.
-/
import Derived.Test.YtbfcmlajlppmdaaDrawBs
namespace Go.Proofs.Ytbfcmlajlppmdaa
open Go.RowKit

theorem own_lowD {w : World} {base base' e sz k : Nat} {v : Value} {xs : List Value} (h : w.ownsRow base e sz v k xs) (hb : base' ≤ base) : w.ownsRow base' e sz v k xs := by
 obtain ⟨h1, h2⟩ := h
 refine ⟨h1, ?_⟩
 rcases h2 with h2 | ⟨g, cap, cur, e1, e2, e3⟩
 ·exact .inl h2
 ·exact .inr ⟨g, cap, cur, e1, Nat.le_trans hb e2, e3⟩
theorem setGD (w : World) (g o : Nat) (u : Value) : w.grownBy (w.setCell ⟨g, o, none⟩ u) (some g) :=
 ⟨rfl, rfl, rfl, by simp, fun k _ hk => heap_setCell_other w ⟨g, o, none⟩ k u (fun e => hk (by simp [e]))⟩
theorem drewGD (w : World) (r : Option Nat) : w.grownBy w.drew r := ⟨rfl, rfl, rfl, Nat.le_refl _, fun _ _ _ => rfl⟩
theorem own_farD {w w' : World} {base e sz k C : Nat} {v : Value} {xs : List Value} (h : w.ownsRow base e sz v k xs) (hg : w.grownBy w' (some C)) (hC : C < base) : w'.ownsRow base e sz v k xs :=
 h.kept hg (.inr fun e => by have := (h.lt _ e).1; omega)
theorem bel_farD {w a b : World} {C : Nat} (h : Bel w a) (hg : a.grownBy b (some C)) (hC : w.heap.size ≤ C) : Bel w b := Below.grown h hg h.out.size (fun k e => by injection e with e; omega)

set_option maxRecDepth 100000 in
set_option maxHeartbeats 4000000 in
theorem drawClip_any (a : Option Addr) (n c : Nat) (w : World) (hS : Bts w a n) (hn : n ≤ 1048576) :
  Calls Try.prog 22 #[.slice a n c] w fun e w' => ∃ (v : Value) (m : Nat) (xs : List Value) (q : BoxD), e = .returned (.tuple #[v, bxv q]) ∧ m ≤ 2001 ∧ w'.ownsRow w.heap.size 32 2 v m xs ∧ (∀ u ∈ xs, ∃ z : Int, u = .int .i64 z) ∧ Box64 q ∧ Bel w w' := by
 obtain ⟨W, HW⟩ : ∃ W, Hid (W = w.alloc (.cells #[.int .i64 0, .int .i64 0, .int .i64 0, .int .i64 0] 34)) := ⟨_, (rfl : w.alloc (.cells #[.int .i64 0, .int .i64 0, .int .i64 0, .int .i64 0] 34) = _)⟩
 have hW : Bel w W := by rw [HW.out]; exact bel_alloc (Bel.refl _) _
 have Z0 : Blk W w.heap.size [.int .i64 0, .int .i64 0, .int .i64 0, .int .i64 0] := by rw [HW.out]; exact Blk.new w [.int .i64 0, .int .i64 0, .int .i64 0, .int .i64 0] _
 have HS := hS.bel hW
 go_enter Try.func22, Try.ntmps22
 go_wp2_with fail
 rw [← HW.out]
 refine (l1New_any a n c W HS hn).mono ?_
 rintro e w1 ⟨rfl, hb1, k1⟩
 go_wp2_with fail
 refine (drawAny_any _ a n c W w1 hb1 (Nat.le_refl _) k1 HS hn).mono ?_
 rintro e w2 ⟨v, m, xs, rfl, hm, hO, hX, d2⟩
 obtain ⟨va, vc, rfl⟩ := own_form hO
 go_wp2_with fail
 refine (drawBoxS_any _ a n c W w2 d2.b (Nat.le_refl _) d2.k HS hn).mono ?_
 rintro e w3 ⟨q, rfl, hq6, d3⟩
 have hlt : W.heap.size < w1.heap.size := k1.lt
 have HO3 : Hid (w3.ownsRow w1.heap.size 32 2 (.slice va m vc) m xs) := own_drawn hO d3 hlt
 have D3 := d2.then d3
 obtain ⟨U, HU⟩ : ∃ U, Hid (U = w3.alloc (.cells #[.int .i64 q.a, .int .i64 q.b, .int .i64 q.c, .int .i64 q.d] 34)) := ⟨_, (rfl : w3.alloc (.cells #[.int .i64 q.a, .int .i64 q.b, .int .i64 q.c, .int .i64 q.d] 34) = _)⟩
 have hbU : Bel w3 U := by rw [HU.out]; exact bel_alloc (Bel.refl _) _
 have XU : Blk U w3.heap.size [.int .i64 q.a, .int .i64 q.b, .int .i64 q.c, .int .i64 q.d] := by rw [HU.out]; exact Blk.new w3 [.int .i64 q.a, .int .i64 q.b, .int .i64 q.c, .int .i64 q.d] _
 have DU := D3.bel hbU
 have hPB : w3.heap.size ≠ W.heap.size := by have := D3.k.lt; omega
 have hg1 : w1.heap.size ≤ w3.heap.size := D3.o.size
 have hWl : w.heap.size < W.heap.size := Z0.lt
 have hne : w.heap.size ≠ w3.heap.size := by omega
 have hne' : w3.heap.size ≠ w.heap.size := by omega
 have HOU : Hid (U.ownsRow w1.heap.size 32 2 (.slice va m vc) m xs) := HO3.out.kept ⟨hbU.out.os, hbU.out.tape, hbU.out.output, hbU.out.size, fun k hk _ => hbU.out.block k hk⟩ (Classical.em (_ = none))
 have hoc : ∀ j, (Value.slice va m vc).ownBlock = some j → j < w3.heap.size := fun j e => (HO3.out.lt j e).2
 clear hO d2 d3 k1 hb1 D3 HO3
 go_wp2_with fail
 rw [← HU.out]
 refine (once_any _ a n c W U DU.b (Nat.le_refl _) DU.k HS hn 2 (by decide) (by decide)).mono ?_
 rintro e w4 ⟨t, rfl, d4⟩
 have HO4 : Hid (w4.ownsRow w1.heap.size 32 2 (.slice va m vc) m xs) := own_drawn HOU.out d4 hlt
 have D4 := DU.then d4
 have X4 := XU.only d4.o hPB
 clear d4 HOU XU hbU DU
 cases t
 ·obtain ⟨V, rfl⟩ : ∃ V, V = w4 := ⟨_, rfl⟩
  have HOV := HO4.out
  have hBWV : Bel W V := D4.b
  have hQ := hq6
  obtain ⟨Q, rfl⟩ : ∃ Q, Q = q := ⟨_, rfl⟩
  have XV := X4
  clear X4 D4 HO4 hq6
  go_upto_region 6 with fail
  have Z3 := Z0.bel hBWV
  have z0 : V.cell? ⟨w.heap.size, 0, none⟩ = some (.int .i64 0) := Z3.cell 0 (by simp)
  have z1 : V.cell? ⟨w.heap.size, 1, none⟩ = some (.int .i64 0) := Z3.cell 1 (by simp)
  have z2 : V.cell? ⟨w.heap.size, 2, none⟩ = some (.int .i64 0) := Z3.cell 2 (by simp)
  have z3 : V.cell? ⟨w.heap.size, 3, none⟩ = some (.int .i64 0) := Z3.cell 3 (by simp)
  have zf := Z3.free
  have zl := Z3.lt
  have u0 : V.cell? ⟨w3.heap.size, 0, none⟩ = some (.int .i64 Q.a) := XV.cell 0 (by simp)
  have u1 : V.cell? ⟨w3.heap.size, 1, none⟩ = some (.int .i64 Q.b) := XV.cell 1 (by simp)
  have u2 : V.cell? ⟨w3.heap.size, 2, none⟩ = some (.int .i64 Q.c) := XV.cell 2 (by simp)
  have u3 : V.cell? ⟨w3.heap.size, 3, none⟩ = some (.int .i64 Q.d) := XV.cell 3 (by simp)
  have ul := XV.lt
  have HF : Hid (∀ W', V.grownBy W' (some w.heap.size) → W'.ownsRow w.heap.size 32 2 (.slice va m vc) m xs ∧ (∀ u ∈ xs, ∃ z : Int, u = .int .i64 z) ∧ Box64 Q ∧ Bel w W') := fun W' hg =>
   ⟨own_lowD (own_farD HOV hg (by have := Z0.lt; omega)) (by have := hW.out.size; omega), hX, hQ, bel_farD (bel_step hW hBWV) hg (Nat.le_refl _)⟩
  clear Z3 XV HOV hBWV
  go_big_region
  go_wp2
  refine bodyPost_ret (v := .tuple #[.slice va m vc, bxv Q]) (by simp [results, Try.results22, go_sem, z0, z1, z2, z3, bxv]) rfl ?_
  refine ⟨_, m, xs, Q, rfl, hm, HF.out _ ?_⟩
  with_reducible repeat (first | exact World.grownBy.refl _ _ | refine World.grownBy.trans ?_ (drewGD _ _) | refine World.grownBy.trans ?_ (setGD _ _ _ _))
 ·go_wp2_with fail
  refine (below_any _ a n c W w4 D4.b (Nat.le_refl _) D4.k HS hn 12 (by decide) (by decide)).mono ?_
  rintro e w5 ⟨x, rfl, hx, d5⟩
  have HO5 : Hid (w5.ownsRow w1.heap.size 32 2 (.slice va m vc) m xs) := own_drawn HO4.out d5 hlt
  have D5 := D4.then d5
  have X5 := X4.only d5.o hPB
  clear d5 D4 X4 HO4
  go_wp2_with fail
  refine (below_any _ a n c W w5 D5.b (Nat.le_refl _) D5.k HS hn 12 (by decide) (by decide)).mono ?_
  rintro e w6 ⟨y, rfl, hy, d6⟩
  have HO6 : Hid (w6.ownsRow w1.heap.size 32 2 (.slice va m vc) m xs) := own_drawn HO5.out d6 hlt
  have D6 := D5.then d6
  have X6 := X5.only d6.o hPB
  clear d6 D5 X5 HO5
  have v0 := X6.cell 0 (by simp)
  have v1 := X6.cell 1 (by simp)
  have v2 := X6.cell 2 (by simp)
  have v3 := X6.cell 3 (by simp)
  simp only [List.getElem_cons_zero, List.getElem_cons_succ] at v0 v1 v2 v3
  have vf := X6.free
  have vl := X6.lt
  have Q6 : Box64 ⟨-5, -5, x - 2, y - 2⟩ := ⟨by show In64 (-5); unfold In64; omega, by show In64 (-5); unfold In64; omega, by show In64 (x - 2); unfold In64; omega, by show In64 (y - 2); unfold In64; omega⟩
  go_upto_region 6 with fail
  obtain ⟨V, HV⟩ : ∃ V, Hid (V = (((w6.setCell ⟨w3.heap.size, 0, none⟩ (.int .i64 (-5))).setCell ⟨w3.heap.size, 1, none⟩ (.int .i64 (-5))).setCell ⟨w3.heap.size, 2, none⟩ (.int .i64 (x - 2))).setCell ⟨w3.heap.size, 3, none⟩ (.int .i64 (y - 2))) := ⟨_, (rfl : (((w6.setCell ⟨w3.heap.size, 0, none⟩ (.int .i64 (-5))).setCell ⟨w3.heap.size, 1, none⟩ (.int .i64 (-5))).setCell ⟨w3.heap.size, 2, none⟩ (.int .i64 (x - 2))).setCell ⟨w3.heap.size, 3, none⟩ (.int .i64 (y - 2)) = _)⟩
  rw [← HV.out]
  obtain ⟨Q, HQ⟩ : ∃ Q : BoxD, Hid (Q = ⟨-5, -5, x - 2, y - 2⟩) := ⟨_, (rfl : (⟨-5, -5, x - 2, y - 2⟩ : BoxD) = _)⟩
  have hg6 : w6.grownBy V (some w3.heap.size) := by
   rw [HV.out]
   exact (((setGD _ _ _ _).trans (setGD _ _ _ _)).trans (setGD _ _ _ _)).trans (setGD _ _ _ _)
  have HOV : V.ownsRow w1.heap.size 32 2 (.slice va m vc) m xs := HO6.out.kept hg6 (.inr fun e => by have := hoc _ e; omega)
  have hBWV : Bel W V := bel_farD D6.b hg6 (by omega)
  have hQ : Box64 Q := by rw [HQ.out]; exact Q6
  have XV : Blk V w3.heap.size [.int .i64 Q.a, .int .i64 Q.b, .int .i64 Q.c, .int .i64 Q.d] := by
   rw [HV.out, HQ.out]
   exact (((X6.set 0 (.int .i64 (-5)) (by simp)).set 1 (.int .i64 (-5)) (by simp)).set 2 (.int .i64 (x - 2)) (by simp)).set 3 (.int .i64 (y - 2)) (by simp)
  clear v0 v1 v2 v3 vf vl X6 D6 HO6
  have Z3 := Z0.bel hBWV
  have z0 : V.cell? ⟨w.heap.size, 0, none⟩ = some (.int .i64 0) := Z3.cell 0 (by simp)
  have z1 : V.cell? ⟨w.heap.size, 1, none⟩ = some (.int .i64 0) := Z3.cell 1 (by simp)
  have z2 : V.cell? ⟨w.heap.size, 2, none⟩ = some (.int .i64 0) := Z3.cell 2 (by simp)
  have z3 : V.cell? ⟨w.heap.size, 3, none⟩ = some (.int .i64 0) := Z3.cell 3 (by simp)
  have zf := Z3.free
  have zl := Z3.lt
  have u0 : V.cell? ⟨w3.heap.size, 0, none⟩ = some (.int .i64 Q.a) := XV.cell 0 (by simp)
  have u1 : V.cell? ⟨w3.heap.size, 1, none⟩ = some (.int .i64 Q.b) := XV.cell 1 (by simp)
  have u2 : V.cell? ⟨w3.heap.size, 2, none⟩ = some (.int .i64 Q.c) := XV.cell 2 (by simp)
  have u3 : V.cell? ⟨w3.heap.size, 3, none⟩ = some (.int .i64 Q.d) := XV.cell 3 (by simp)
  have ul := XV.lt
  have HF : Hid (∀ W', V.grownBy W' (some w.heap.size) → W'.ownsRow w.heap.size 32 2 (.slice va m vc) m xs ∧ (∀ u ∈ xs, ∃ z : Int, u = .int .i64 z) ∧ Box64 Q ∧ Bel w W') := fun W' hg =>
   ⟨own_lowD (own_farD HOV hg (by have := Z0.lt; omega)) (by have := hW.out.size; omega), hX, hQ, bel_farD (bel_step hW hBWV) hg (Nat.le_refl _)⟩
  clear Z3 XV HOV hBWV
  go_big_region
  go_wp2
  refine bodyPost_ret (v := .tuple #[.slice va m vc, bxv Q]) (by simp [results, Try.results22, go_sem, z0, z1, z2, z3, bxv]) rfl ?_
  refine ⟨_, m, xs, Q, rfl, hm, HF.out _ ?_⟩
  with_reducible repeat (first | exact World.grownBy.refl _ _ | refine World.grownBy.trans ?_ (drewGD _ _) | refine World.grownBy.trans ?_ (setGD _ _ _ _))
end Go.Proofs.Ytbfcmlajlppmdaa
