/-
  What the model draws for Quantise: any row of numbers of 64 bits, any tile.
-/
import Derived.Test.YtkmccjjghpnejaaDrawBs
import Derived.Test.YtkmccjjghpnejaaDrawTl
import Derived.Test.YtkmccjjghpnejaaDrawP
import Derived.Test.YtkmccjjghpnejaaClpWa
namespace Go.Proofs.Ytkmccjjghpnejaa
open Go.RowKit

theorem own_lowQ {w : World} {base base' e sz k : Nat} {v : Value} {xs : List Value} (h : w.ownsRow base e sz v k xs) (hb : base' ≤ base) : w.ownsRow base' e sz v k xs := by
 obtain ⟨h1, h2⟩ := h
 refine ⟨h1, ?_⟩
 rcases h2 with h2 | ⟨g, cap, cur, e1, e2, e3⟩
 ·exact .inl h2
 ·exact .inr ⟨g, cap, cur, e1, Nat.le_trans hb e2, e3⟩
theorem setGQ (w : World) (g o : Nat) (u : Value) : w.grownBy (w.setCell ⟨g, o, none⟩ u) (some g) :=
 ⟨rfl, rfl, rfl, by simp, fun k _ hk => heap_setCell_other w ⟨g, o, none⟩ k u (fun e => hk (by simp [e]))⟩
theorem drewGQ (w : World) (r : Option Nat) : w.grownBy w.drew r := ⟨rfl, rfl, rfl, Nat.le_refl _, fun _ _ _ => rfl⟩
theorem own_farQ {w w' : World} {base e sz k C : Nat} {v : Value} {xs : List Value} (h : w.ownsRow base e sz v k xs) (hg : w.grownBy w' (some C)) (hC : C < base) : w'.ownsRow base e sz v k xs :=
 h.kept hg (.inr fun e => by have := (h.lt _ e).1; omega)
theorem bel_farQ {w a b : World} {C : Nat} (h : Bel w a) (hg : a.grownBy b (some C)) (hC : w.heap.size ≤ C) : Bel w b := Below.grown h hg h.out.size (fun k e => by injection e with e; omega)
theorem own_ptsQ {w : World} {base m : Nat} {v : Value} {xs : List Value} (h : w.ownsRow base 31 2 v m xs) (hx : ∀ u ∈ xs, ∃ z : Int, u = .int .i64 z ∧ In64 z) :
  ∃ (a : Option Addr) (c : Nat) (X Y : Nat → Int), v = .slice a m c ∧ m ≤ c ∧ Pts w a m X Y ∧ ∀ i, i < m → In64 (X i) ∧ In64 (Y i) := by
 rcases h.2 with ⟨rfl, rfl⟩ | ⟨g, cap, cur, rfl, hb, hg, hc, _⟩
 ·exact ⟨none, 0, fun _ => 0, fun _ => 0, rfl, Nat.le_refl _, .inl rfl, fun _ h => nomatch h⟩
 ·have key : ∀ j, j < m * 2 → w.cell? ⟨g, j, none⟩ = some (.int .i64 (intOf (xs.getD j (.int .i64 0)))) ∧ In64 (intOf (xs.getD j (.int .i64 0))) := fun j hj => by
   have hl : j < xs.length := by rw [h.1]; exact hj
   obtain ⟨z, e, hz⟩ := hx xs[j] (List.getElem_mem hl)
   have e2 : xs.getD j (.int .i64 0) = .int .i64 z := by simp [List.getD, hl, e]
   rw [h.cellAt j hj, List.getElem?_eq_getElem hl, e2, e]
   exact ⟨rfl, hz⟩
  refine ⟨some ⟨g, 0, none⟩, cap, fun i => intOf (xs.getD (i * 2) (.int .i64 0)), fun i => intOf (xs.getD (i * 2 + 1) (.int .i64 0)), rfl, hc, .inr ⟨g, 0, rfl, (h.lt g rfl).2, fun i hi => ⟨?_, ?_⟩⟩, fun i hi => ⟨(key _ (by omega)).2, (key _ (by omega)).2⟩⟩
  ·rw [Nat.zero_add]; exact (key _ (by omega)).1
  ·rw [Nat.zero_add]; exact (key _ (by omega)).1
theorem tbx_ord {z x y : Int} (h : tilB z x y = true) : (tbx z x y).a ≤ (tbx z x y).c ∧ (tbx z x y).b ≤ (tbx z x y).d ∧ Box64 (tbx z x y) := by
 rw [tbx_yes h]
 unfold tilB at h
 simp only [Bool.and_eq_true, decide_eq_true_eq] at h
 obtain ⟨hz, h0, h1, h2, h3⟩ := h
 obtain ⟨a1, a2⟩ := tbA_bd hz h0 h1
 obtain ⟨b1, b2⟩ := tbA_bd hz h2 h3
 have hs : (0 : Int) ≤ zS z := Int.natCast_nonneg _
 refine ⟨by show tbA z x ≤ tbA z x + zS z; omega, by show tbA z y ≤ tbA z y + zS z; omega, ⟨?_, ?_, ?_, ?_⟩⟩
 ·show In64 (tbA z x); unfold In64; omega
 ·show In64 (tbA z y); unfold In64; omega
 ·show In64 (tbA z x + zS z); unfold In64; omega
 ·show In64 (tbA z y + zS z); unfold In64; omega
theorem fl_ints {L : List PtD} (h : ∀ d ∈ L, PqP d) : ∀ u ∈ L.flatMap pqCs, ∃ z : Int, u = .int .i64 z ∧ In64 z := by
 intro u hu
 obtain ⟨d, hd, hu⟩ := List.mem_flatMap.1 hu
 obtain ⟨h1, h2⟩ := h d hd
 simp [pqCs] at hu
 rcases hu with rfl | rfl
 ·exact ⟨_, rfl, h1⟩
 ·exact ⟨_, rfl, h2⟩
theorem flat_le {L : List (List PtD)} {i : Nat} (h : i < L.length) : L[i].length ≤ L.flatten.length := by
 have h1 : (L.take (i + 1)).flatten.length = (L.take i).flatten.length + L[i].length := stN_succ h
 have h2 : L.flatten.length = (L.take (i + 1)).flatten.length + (L.drop (i + 1)).flatten.length := by rw [← List.length_append, ← List.flatten_append, List.take_append_drop]
 omega

set_option maxRecDepth 100000 in
set_option maxHeartbeats 4000000 in
theorem drawQuantise_any (a : Option Addr) (n c : Nat) (w : World) (hS : Bts w a n) (hn : n ≤ 1048576) :
  Calls Try.prog 7 #[.slice a n c] w fun e w' => ∃ (v : Value) (m : Nat) (xs : List Value) (z x y : Int), e = .returned (.tuple #[v, til z x y]) ∧ m ≤ 4002 ∧ w'.ownsRow w.heap.size 31 2 v m xs ∧ (∀ u ∈ xs, ∃ z : Int, u = .int .i64 z ∧ In64 z) ∧ Bel w w' := by
 obtain ⟨W, HW⟩ : ∃ W, Hid (W = w.alloc (.cells #[.int .i64 0, .int .i64 0, .int .i64 0] 26)) := ⟨_, (rfl : w.alloc (.cells #[.int .i64 0, .int .i64 0, .int .i64 0] 26) = _)⟩
 have hW : Bel w W := by rw [HW.out]; exact bel_alloc (Bel.refl _) _
 have Z0 : Blk W w.heap.size [.int .i64 0, .int .i64 0, .int .i64 0] := by rw [HW.out]; exact Blk.new w [.int .i64 0, .int .i64 0, .int .i64 0] _
 have HS := hS.bel hW
 go_enter Try.func7, Try.ntmps7
 go_wp2_with fail
 rw [← HW.out]
 refine (l1New_any a n c W HS hn).mono ?_
 rintro e w1 ⟨rfl, hb1, k1⟩
 go_wp2_with fail
 refine (drawAnyB_any _ a n c W w1 hb1 (Nat.le_refl _) k1 HS hn).mono ?_
 rintro e w2 ⟨v, m, xs, rfl, hm, hO, hX, d2⟩
 obtain ⟨va, vc, rfl⟩ := own_form hO
 go_wp2_with fail
 refine (drawTile_any _ a n c W w2 d2.b (Nat.le_refl _) d2.k HS hn).mono ?_
 rintro e w3 ⟨z, x, y, rfl, d3⟩
 have hlt : W.heap.size < w1.heap.size := k1.lt
 have hWl : w.heap.size < W.heap.size := Z0.lt
 have HO3 : Hid (w3.ownsRow w1.heap.size 31 2 (.slice va m vc) m xs) := own_drawn hO d3 hlt
 have D3 := d2.then d3
 obtain ⟨U, HU⟩ : ∃ U, Hid (U = w3.alloc (.cells #[.int .i64 z, .int .i64 x, .int .i64 y] 26)) := ⟨_, (rfl : w3.alloc (.cells #[.int .i64 z, .int .i64 x, .int .i64 y] 26) = _)⟩
 have hbU : Bel w3 U := by rw [HU.out]; exact bel_alloc (Bel.refl _) _
 have XU : Blk U w3.heap.size [.int .i64 z, .int .i64 x, .int .i64 y] := by rw [HU.out]; exact Blk.new w3 [.int .i64 z, .int .i64 x, .int .i64 y] _
 have DU := D3.bel hbU
 have HOU : Hid (U.ownsRow w1.heap.size 31 2 (.slice va m vc) m xs) := HO3.out.kept ⟨hbU.out.os, hbU.out.tape, hbU.out.output, hbU.out.size, fun k hk _ => hbU.out.block k hk⟩ (Classical.em (_ = none))
 have hPB : w3.heap.size ≠ W.heap.size := by have := D3.k.lt; omega
 have hg1 : w1.heap.size ≤ w3.heap.size := D3.o.size
 have hbase : w.heap.size < w1.heap.size := by omega
 clear hO d2 d3 k1 hb1 D3 HO3
 have x0 := XU.cell 0 (by simp)
 have x1 := XU.cell 1 (by simp)
 have x2 := XU.cell 2 (by simp)
 simp only [List.getElem_cons_zero, List.getElem_cons_succ] at x0 x1 x2
 have xl := XU.lt
 go_upto_region 4 with fail
 rw [← HU.out]
 go_wp2_with fail
 refine (specTileOk_any z x y _).mono ?_
 rintro e w4 ⟨rfl, hb4⟩
 have D4 := DU.bel hb4
 have X4 := XU.bel hb4
 have HO4 : Hid (w4.ownsRow w1.heap.size 31 2 (.slice va m vc) m xs) := HOU.out.kept ⟨hb4.out.os, hb4.out.tape, hb4.out.output, hb4.out.size, fun k hk _ => hb4.out.block k hk⟩ (Classical.em (_ = none))
 clear DU XU HOU x0 x1 x2 xl
 have hm0 : m ≤ 2001 := hm
 have hm : m ≤ 4002 := by omega
 cases htb : tilB z x y
 ·obtain ⟨V, rfl⟩ : ∃ V, V = w4 := ⟨_, rfl⟩
  have HOV := HO4.out
  have hBWV : Bel W V := D4.b
  have XV := X4
  clear X4 D4 HO4
  have Z3 := Z0.bel hBWV
  have z0 : V.cell? ⟨w.heap.size, 0, none⟩ = some (.int .i64 0) := Z3.cell 0 (by simp)
  have z1 : V.cell? ⟨w.heap.size, 1, none⟩ = some (.int .i64 0) := Z3.cell 1 (by simp)
  have z2 : V.cell? ⟨w.heap.size, 2, none⟩ = some (.int .i64 0) := Z3.cell 2 (by simp)
  have zf := Z3.free
  have zl := Z3.lt
  have u0 : V.cell? ⟨w3.heap.size, 0, none⟩ = some (.int .i64 z) := XV.cell 0 (by simp)
  have u1 : V.cell? ⟨w3.heap.size, 1, none⟩ = some (.int .i64 x) := XV.cell 1 (by simp)
  have u2 : V.cell? ⟨w3.heap.size, 2, none⟩ = some (.int .i64 y) := XV.cell 2 (by simp)
  have ul := XV.lt
  have HF : Hid (∀ W', V.grownBy W' (some w.heap.size) → W'.ownsRow w.heap.size 31 2 (.slice va m vc) m xs ∧ (∀ u ∈ xs, ∃ z : Int, u = .int .i64 z ∧ In64 z) ∧ Bel w W') := fun W' hg =>
   ⟨own_lowQ (own_farQ HOV hg hbase) (Nat.le_of_lt hbase), hX, bel_farQ (bel_step hW hBWV) hg (Nat.le_refl _)⟩
  clear Z3 XV HOV hBWV
  go_upto_region 8 with fail
  go_big_region
  go_wp2
  refine bodyPost_ret (v := .tuple #[.slice va m vc, til z x y]) (by simp [results, Try.results7, go_sem, z0, z1, z2]) rfl ?_
  refine ⟨_, m, xs, z, x, y, rfl, hm, HF.out _ ?_⟩
  with_reducible repeat (first | exact World.grownBy.refl _ _ | refine World.grownBy.trans ?_ (drewGQ _ _) | refine World.grownBy.trans ?_ (setGQ _ _ _ _))
 ·go_wp2_with fail
  refine (once_any _ a n c W w4 D4.b (Nat.le_refl _) D4.k HS hn 4 (by decide) (by decide)).mono ?_
  rintro e w5 ⟨t, rfl, d5⟩
  have HO5 : Hid (w5.ownsRow w1.heap.size 31 2 (.slice va m vc) m xs) := own_drawn HO4.out d5 hlt
  have D5 := D4.then d5
  have X5 := X4.only d5.o hPB
  clear d5 D4 X4 HO4
  cases t
  rotate_left
  ·obtain ⟨V, rfl⟩ : ∃ V, V = w5 := ⟨_, rfl⟩
   have HOV := HO5.out
   have hBWV : Bel W V := D5.b
   have XV := X5
   clear X5 D5 HO5
   have Z3 := Z0.bel hBWV
   have z0 : V.cell? ⟨w.heap.size, 0, none⟩ = some (.int .i64 0) := Z3.cell 0 (by simp)
   have z1 : V.cell? ⟨w.heap.size, 1, none⟩ = some (.int .i64 0) := Z3.cell 1 (by simp)
   have z2 : V.cell? ⟨w.heap.size, 2, none⟩ = some (.int .i64 0) := Z3.cell 2 (by simp)
   have zf := Z3.free
   have zl := Z3.lt
   have u0 : V.cell? ⟨w3.heap.size, 0, none⟩ = some (.int .i64 z) := XV.cell 0 (by simp)
   have u1 : V.cell? ⟨w3.heap.size, 1, none⟩ = some (.int .i64 x) := XV.cell 1 (by simp)
   have u2 : V.cell? ⟨w3.heap.size, 2, none⟩ = some (.int .i64 y) := XV.cell 2 (by simp)
   have ul := XV.lt
   have HF : Hid (∀ W', V.grownBy W' (some w.heap.size) → W'.ownsRow w.heap.size 31 2 (.slice va m vc) m xs ∧ (∀ u ∈ xs, ∃ z : Int, u = .int .i64 z ∧ In64 z) ∧ Bel w W') := fun W' hg =>
    ⟨own_lowQ (own_farQ HOV hg hbase) (Nat.le_of_lt hbase), hX, bel_farQ (bel_step hW hBWV) hg (Nat.le_refl _)⟩
   clear Z3 XV HOV hBWV
   go_upto_region 8 with fail
   go_big_region
   go_wp2
   refine bodyPost_ret (v := .tuple #[.slice va m vc, til z x y]) (by simp [results, Try.results7, go_sem, z0, z1, z2]) rfl ?_
   refine ⟨_, m, xs, z, x, y, rfl, hm, HF.out _ ?_⟩
   with_reducible repeat (first | exact World.grownBy.refl _ _ | refine World.grownBy.trans ?_ (drewGQ _ _) | refine World.grownBy.trans ?_ (setGQ _ _ _ _))
  have x0 := X5.cell 0 (by simp)
  have x1 := X5.cell 1 (by simp)
  have x2 := X5.cell 2 (by simp)
  simp only [List.getElem_cons_zero, List.getElem_cons_succ] at x0 x1 x2
  have xl := X5.lt
  go_wp2_with fail
  refine (l6Box_any z x y _ htb).mono ?_
  rintro e w6 ⟨rfl, hb6⟩
  have HO6 : Hid (w6.ownsRow w1.heap.size 31 2 (.slice va m vc) m xs) := HO5.out.kept ⟨hb6.out.os, hb6.out.tape, hb6.out.output, hb6.out.size, fun k hk _ => hb6.out.block k hk⟩ (Classical.em (_ = none))
  have hBW6 : Bel W w6 := bel_step D5.b hb6
  have X6 := X5.bel hb6
  have h56 : w1.heap.size ≤ w6.heap.size := by have := D5.o.size; have := hb6.out.size; have := X6.lt; omega
  clear HO5 D5 X5 x0 x1 x2 xl
  obtain ⟨pa, pc, X, Y, hpe, hpc, hP, hi64⟩ := own_ptsQ HO6.out hX
  injection hpe with hpe1 _ hpe3
  subst hpe1 hpe3
  obtain ⟨o1, o2, o3⟩ := tbx_ord htb
  go_wp2_with fail
  refine (l6Clip_anyw _ _ _ X Y (tbx z x y) _ hP hm0 hi64 o1 o2 o3).mono ?_
  rintro e w7 ⟨v7, rfl, ⟨L, k, o, lo, G, C, hlo, hR, hJ, hk⟩, hb7⟩
  have HO7 : Hid (w7.ownsRow w1.heap.size 31 2 (.slice va m vc) m xs) := HO6.out.kept ⟨hb7.out.os, hb7.out.tape, hb7.out.output, hb7.out.size, fun k hk _ => hb7.out.block k hk⟩ (Classical.em (_ = none))
  have hBW7 : Bel W w7 := bel_step hBW6 hb7
  have X7 := X6.bel hb7
  clear HO6 hBW6 X6 hP
  obtain ⟨l, Hl⟩ : ∃ l, Hid (L.length = l) := ⟨_, (rfl : L.length = _)⟩
  obtain ⟨ra, rc, rfl, hrc⟩ := own_anyW hR.own
  rw [Hl.out]
  rw [Hl.out] at hR
  cases l with
  | zero =>
   obtain ⟨V, rfl⟩ : ∃ V, V = w7 := ⟨_, rfl⟩
   have HOV := HO7.out
   have hBWV : Bel W V := hBW7
   have XV := X7
   clear X7 HO7 hR
   have Z3 := Z0.bel hBWV
   have z0 : V.cell? ⟨w.heap.size, 0, none⟩ = some (.int .i64 0) := Z3.cell 0 (by simp)
   have z1 : V.cell? ⟨w.heap.size, 1, none⟩ = some (.int .i64 0) := Z3.cell 1 (by simp)
   have z2 : V.cell? ⟨w.heap.size, 2, none⟩ = some (.int .i64 0) := Z3.cell 2 (by simp)
   have zf := Z3.free
   have zl := Z3.lt
   have u0 : V.cell? ⟨w3.heap.size, 0, none⟩ = some (.int .i64 z) := XV.cell 0 (by simp)
   have u1 : V.cell? ⟨w3.heap.size, 1, none⟩ = some (.int .i64 x) := XV.cell 1 (by simp)
   have u2 : V.cell? ⟨w3.heap.size, 2, none⟩ = some (.int .i64 y) := XV.cell 2 (by simp)
   have ul := XV.lt
   have HF : Hid (∀ W', V.grownBy W' (some w.heap.size) → W'.ownsRow w.heap.size 31 2 (.slice va m vc) m xs ∧ (∀ u ∈ xs, ∃ z : Int, u = .int .i64 z ∧ In64 z) ∧ Bel w W') := fun W' hg =>
    ⟨own_lowQ (own_farQ HOV hg hbase) (Nat.le_of_lt hbase), hX, bel_farQ (bel_step hW hBWV) hg (Nat.le_refl _)⟩
   clear Z3 XV HOV hBWV
   go_upto_region 8 with fail
   go_big_region
   go_wp2
   refine bodyPost_ret (v := .tuple #[.slice va m vc, til z x y]) (by simp [results, Try.results7, go_sem, z0, z1, z2]) rfl ?_
   refine ⟨_, m, xs, z, x, y, rfl, hm, HF.out _ ?_⟩
   with_reducible repeat (first | exact World.grownBy.refl _ _ | refine World.grownBy.trans ?_ (drewGQ _ _) | refine World.grownBy.trans ?_ (setGQ _ _ _ _))
  | succ l =>
   have h0 : 0 < L.length := by rw [Hl.out]; omega
   have hown := hR.own
   rw [Hl.out] at hown
   obtain ⟨g, gc, hge⟩ := own_someW hown (by omega : 0 < l + 1)
   injection hge with hge1 _ hge3
   subst hge1 hge3
   have y0 := hown.cellAt 0 (by omega)
   rw [rwVs_get h0] at y0
   have hgl := (hown.lt g rfl).2
   have hrow := hR.row 0 h0
   have hm7 : L[0].length ≤ 4002 := by have := flat_le h0; have := hJ.flat; omega
   have hX7 := fl_ints (hJ.good.in64 L[0] (List.getElem_mem h0))
   obtain ⟨m7, Hm7⟩ : ∃ t, Hid (L[0].length = t) := ⟨_, (rfl : L[0].length = _)⟩
   obtain ⟨xs7, Hx7⟩ : ∃ t, Hid (L[0].flatMap pqCs = t) := ⟨_, (rfl : L[0].flatMap pqCs = _)⟩
   rw [Hm7.out] at y0 hrow hm7
   rw [Hx7.out] at hrow hX7
   have hlt0 : (0 : Int) < ((l + 1 : Nat) : Int) := by omega
   have hrow' : w7.ownsRow w6.heap.size 31 2 (.slice (some ⟨G 0, 0, none⟩) m7 (C 0)) m7 xs7 := own_lowQ hrow hlo
   have hbase7 : w.heap.size < w6.heap.size := by omega
   clear hR hrow hown
   obtain ⟨V, rfl⟩ : ∃ V, V = w7 := ⟨_, rfl⟩
   have hBWV : Bel W V := hBW7
   have XV := X7
   have HOV := hrow'
   clear X7 HO7 hrow'
   clear hX hm hbase
   have hX := hX7
   have hm := hm7
   have hbase := hbase7
   clear hX7 hm7 hbase7
   have Z3 := Z0.bel hBWV
   have z0 : V.cell? ⟨w.heap.size, 0, none⟩ = some (.int .i64 0) := Z3.cell 0 (by simp)
   have z1 : V.cell? ⟨w.heap.size, 1, none⟩ = some (.int .i64 0) := Z3.cell 1 (by simp)
   have z2 : V.cell? ⟨w.heap.size, 2, none⟩ = some (.int .i64 0) := Z3.cell 2 (by simp)
   have zf := Z3.free
   have zl := Z3.lt
   have u0 : V.cell? ⟨w3.heap.size, 0, none⟩ = some (.int .i64 z) := XV.cell 0 (by simp)
   have u1 : V.cell? ⟨w3.heap.size, 1, none⟩ = some (.int .i64 x) := XV.cell 1 (by simp)
   have u2 : V.cell? ⟨w3.heap.size, 2, none⟩ = some (.int .i64 y) := XV.cell 2 (by simp)
   have ul := XV.lt
   have HF : Hid (∀ W', V.grownBy W' (some w.heap.size) → W'.ownsRow w.heap.size 31 2 (.slice (some ⟨G 0, 0, none⟩) m7 (C 0)) m7 xs7 ∧ (∀ u ∈ xs7, ∃ z : Int, u = .int .i64 z ∧ In64 z) ∧ Bel w W') := fun W' hg =>
    ⟨own_lowQ (own_farQ HOV hg hbase) (Nat.le_of_lt hbase), hX, bel_farQ (bel_step hW hBWV) hg (Nat.le_refl _)⟩
   clear Z3 XV HOV hBWV
   go_upto_region 8 with fail
   go_big_region
   go_wp2
   refine bodyPost_ret (v := .tuple #[.slice (some ⟨G 0, 0, none⟩) m7 (C 0), til z x y]) (by simp [results, Try.results7, go_sem, z0, z1, z2]) rfl ?_
   refine ⟨_, m7, xs7, z, x, y, rfl, hm, HF.out _ ?_⟩
   with_reducible repeat (first | exact World.grownBy.refl _ _ | refine World.grownBy.trans ?_ (drewGQ _ _) | refine World.grownBy.trans ?_ (setGQ _ _ _ _))
end Go.Proofs.Ytkmccjjghpnejaa
