/-
  A graph's network with the winds of its Roads, in the program: contract.
-/
import Derived.Test.YtdlgehnoiaoneaaGreatDoorGA
import Derived.Test.YtdlgehnoiaoneaaGreatDoorGH
import Derived.Test.YtdlgehnoiaoneaaGreatDoorNetI
namespace Go.Proofs.YtdlgehnoiaoneaaGreatDoor
open Go.RowKit Go.Maps

/-- What streetsOf tells. -/
structure StrOut (w : World) (s0 s1 s2 : Value) (g : GraphD) (e : Ending) (w' : World) : Prop where
 out : ∃ lo Bb Be M Wd V, e = .returned (.tuple #[.agg #[s0, s1, s2, .slice (some ⟨Bb, 0, none⟩) g.places.length g.places.length, .slice (some ⟨Be, 0, none⟩) g.places.length g.places.length, .map (some M), .slice (some ⟨Wd, 0, none⟩) g.roads.length g.roads.length], .bool true]) ∧
  Tabs lo w' (fun t => cond t Bb Be) g.places.length V (bgF g.roads g.roads.length) ∧ BSet w' M g.bans.length (inL g.bans) ∧ Wnd w' Wd g.roads.length g.roads.length g ∧ M < lo ∧ M ≠ Bb ∧ M ≠ Be ∧ (w.heap.size ≤ M ∧ w.heap.size ≤ Bb ∧ w.heap.size ≤ Be ∧ w.heap.size ≤ Wd) ∧ Bel w w'
theorem infoW : (Tryz.prog.info? 2).map (fun i => (i.zero, i.size, i.bytes)) = some (some (.int .i64 0), 1, 8) := by kernel_rfl
theorem Frx.bel_of {B : Nat} {a b c : World} (h : Bel a b) (k : Frx (fun x => x ≠ B) b c) (hB : a.heap.size ≤ B) : Bel a c :=
 h.out.trans (k.below (fun x hx e => by omega) h.out.size)
theorem Frx.cell {X : Nat → Prop} {a b : World} (h : Frx X a b) {B o : Nat} {v : Value} (hB : B < a.heap.size) (hX : X B) (hc : a.cell? ⟨B, o, none⟩ = some v) : b.cell? ⟨B, o, none⟩ = some v := by
 rw [World.cell?_of_block (a := ⟨B, o, none⟩) (h.block B hB hX)]; exact hc
theorem Frx.winds {X : Nat → Prop} {a b : World} (h : Frx X a b) (hX : X 0) (k : Winds a) : Winds b := by
 obtain ⟨h0, c⟩ := k
 have e := h.block 0 h0 hX
 refine ⟨Nat.lt_of_lt_of_le h0 h.size, ?_⟩
 have q : ∀ o, b.cell? ⟨0, o, none⟩ = a.cell? ⟨0, o, none⟩ := fun o => World.cell?_of_block (a := ⟨0, o, none⟩) e
 simp only [q]
 exact c
theorem spot_cell {w : World} {b off : Nat} {l : List SpotD} {bs : List Nat} (h : SpotL w (some ⟨b, off, none⟩) l bs) {p : Nat} (hp : p < l.length) :
  w.cell? ⟨b, off + p * 3 + 1, none⟩ = some (.int .i64 l[p].x) ∧ w.cell? ⟨b, off + p * 3 + 2, none⟩ = some (.int .i64 l[p].y) := by
 obtain ⟨b', off', f, e, _, hx⟩ := h.out hp
 injection e with e
 injection e with e1 e2
 subst e1 e2
 obtain ⟨_, _, _, _, _, h1, h2⟩ := hx p hp
 exact ⟨h1, h2⟩

set_option maxRecDepth 100000 in
set_option maxHeartbeats 4000000 in
theorem streetsOf_yes (a0 : Option Addr) (n0 c0 : Nat) (a1 : Option Addr) (n1 c1 : Nat) (a2 : Option Addr) (n2 c2 : Nat) (g : GraphD) (b0 b1 b2 : List Nat) (w : World) (hT : Winds w) (t0 : SpotL w a0 g.places b0) (t1 : RoadL w a1 g.roads b1) (t2 : BanL w a2 g.bans b2) (e0 : g.places.length = n0) (e1 : g.roads.length = n1) (e2 : g.bans.length = n2) (hP : graphP g) :
  Calls Tryz.prog 41 #[gphV a0 n0 c0 a1 n1 c1 a2 n2 c2] w fun e w' => StrOut w (.slice a0 n0 c0) (.slice a1 n1 c1) (.slice a2 n2 c2) g e w' := by
 have H0 : Hid (g.places.length = n0) := e0
 have H1 : Hid (g.roads.length = n1) := e1
 have H2 : Hid (g.bans.length = n2) := e2
 have HP : Hid (graphP g) := hP
 have m1 : n1 ≤ 8000 := by rw [← e1]; exact hP.1.2.1
 have m0 : n0 ≤ 5000 := by rw [← e0]; exact hP.1.1
 clear hP
 have hmk : ∀ w : World, (Instr.makeSlice 46 (.int .i64 n1) (.int .i64 n1)).run Tryz.prog w = .ok (.slice (some ⟨w.heap.size, 0, none⟩) n1 n1) (w.alloc (.cells (madeCells #[.int .i64 0] n1) 2)) := fun w => by
  obtain ⟨i0, hi, hz0, hz1, hz2⟩ := info_parts infoW
  have := run_make (P := Tryz.prog) w 46 2 i0 (.int .i64 0) Tryz.underlying46 hi hz0 .i64 .i64 n1 n1 (by omega) (by omega) (by rw [hz2]; omega) (by omega)
  rw [hz1, Nat.mul_one] at this
  exact this
 obtain ⟨W, HW⟩ : ∃ W, Hid (W = (w.alloc (.cells #[.slice a0 n0 c0, .slice a1 n1 c1, .slice a2 n2 c2] 34)).alloc (.cells #[.slice none 0 0, .slice none 0 0, .slice none 0 0, .slice none 0 0, .slice none 0 0, .map none, .slice none 0 0] 91)) := ⟨_, (rfl : (w.alloc (.cells #[.slice a0 n0 c0, .slice a1 n1 c1, .slice a2 n2 c2] 34)).alloc (.cells #[.slice none 0 0, .slice none 0 0, .slice none 0 0, .slice none 0 0, .slice none 0 0, .map none, .slice none 0 0] 91) = _)⟩
 have hBW : Bel w W := by rw [HW.out]; exact bel_alloc (bel_alloc (Bel.refl _) _) _
 have XG : Blk W w.heap.size [.slice a0 n0 c0, .slice a1 n1 c1, .slice a2 n2 c2] := by rw [HW.out]; exact (Blk.new w [.slice a0 n0 c0, .slice a1 n1 c1, .slice a2 n2 c2] _).bel (bel_alloc (Bel.refl _) _)
 have XZ : Blk W (w.heap.size + 1) [.slice none 0 0, .slice none 0 0, .slice none 0 0, .slice none 0 0, .slice none 0 0, .map none, .slice none 0 0] := by rw [HW.out]; exact Blk.new1 w _ [.slice none 0 0, .slice none 0 0, .slice none 0 0, .slice none 0 0, .slice none 0 0, .map none, .slice none 0 0] _
 clear e0 e1 e2
 go_enter Tryz.func41, Tryz.ntmps41
 go_wp2_with fail
 rw [← HW.out]
 refine (networkOf_yes _ _ _ _ _ _ _ _ _ g b0 b1 b2 _ (t0.bel spotE hBW) (t1.bel roadE hBW) (t2.bel banE hBW) H0.out H1.out H2.out HP.out).mono ?_
 rintro e w1 ⟨⟨lo, Bb, Be, M, V, rfl, hTb, hS, zm, d1, d2, ⟨o1, o2, o3⟩, hb1⟩⟩
 rw [H0.out] at hTb ⊢
 have hB1 := bel_step hBW hb1
 obtain ⟨U, HU⟩ : ∃ U, Hid (U = w1.alloc (.cells #[.slice a0 n0 c0, .slice a1 n1 c1, .slice a2 n2 c2, .slice (some ⟨Bb, 0, none⟩) n0 n0, .slice (some ⟨Be, 0, none⟩) n0 n0, .map (some M)] 89)) := ⟨_, (rfl : w1.alloc (.cells #[.slice a0 n0 c0, .slice a1 n1 c1, .slice a2 n2 c2, .slice (some ⟨Bb, 0, none⟩) n0 n0, .slice (some ⟨Be, 0, none⟩) n0 n0, .map (some M)] 89) = _)⟩
 have hbU : Bel w1 U := by rw [HU.out]; exact bel_alloc (Bel.refl _) _
 have XU : Blk U w1.heap.size [.slice a0 n0 c0, .slice a1 n1 c1, .slice a2 n2 c2, .slice (some ⟨Bb, 0, none⟩) n0 n0, .slice (some ⟨Be, 0, none⟩) n0 n0, .map (some M)] := by rw [HU.out]; exact Blk.new w1 [.slice a0 n0 c0, .slice a1 n1 c1, .slice a2 n2 c2, .slice (some ⟨Bb, 0, none⟩) n0 n0, .slice (some ⟨Be, 0, none⟩) n0 n0, .map (some M)] _
 have HUs : Hid (U.heap.size = w1.heap.size + 1) := (by rw [HU.out]; simp : U.heap.size = w1.heap.size + 1)
 obtain ⟨W1, HW1⟩ : ∃ W1, Hid (W1 = U.alloc (.cells (madeCells #[.int .i64 0] n1) 2)) := ⟨_, (rfl : U.alloc (.cells (madeCells #[.int .i64 0] n1) 2) = _)⟩
 have hbW1 : Bel U W1 := by rw [HW1.out]; exact bel_alloc (Bel.refl _) _
 have WN : Wnd W1 U.heap.size n1 0 g := by rw [HW1.out]; exact Wnd.new U n1 _ g
 obtain ⟨Wd, HWd⟩ : ∃ Wd, Hid (U.heap.size = Wd) := ⟨_, (rfl : U.heap.size = _)⟩
 rw [HWd.out] at WN
 have XG1 := (XG.bel hb1).bel hbU
 have XZ1 := (XZ.bel hb1).bel hbU
 have x1 : U.cell? ⟨w.heap.size, 1, none⟩ = some (.slice a1 n1 c1) := XG1.cell 1 (by simp)
 have xl := XG1.lt
 have hBU := bel_step hB1 hbU
 have hB2 := bel_step hBU hbW1
 have sz1 := hB1.out.size
 have zG := XG.lt
 have zZ := XZ.lt
 have hlt1 : W.heap.size ≤ w1.heap.size := hb1.out.size
 have nWG : w.heap.size ≠ Wd := by have := HWd.out; have := HUs.out; omega
 have nWZ : w.heap.size + 1 ≠ Wd := by have := HWd.out; have := HUs.out; omega
 have nWN : w1.heap.size ≠ Wd := by have := HWd.out; have := HUs.out; omega
 have HT1 : Hid (Winds W1) := hT.bel hB2
 have T0 : Hid (SpotL W1 a0 g.places b0) := t0.bel spotE hB2
 have T1 : Hid (RoadL W1 a1 g.roads b1) := t1.bel roadE hB2
 have HB0 : Hid (∀ x ∈ b0, x ≠ Wd) := fun x hx => by have := t0.lt spotE x hx; have := HWd.out; have := HUs.out; omega
 have HB1 : Hid (∀ x ∈ b1, x ≠ Wd) := fun x hx => by have := t1.lt roadE x hx; have := HWd.out; have := HUs.out; omega
 have HXG : Hid (Blk W1 w.heap.size [.slice a0 n0 c0, .slice a1 n1 c1, .slice a2 n2 c2]) := XG1.bel hbW1
 have HXZ : Hid (Blk W1 (w.heap.size + 1) [.slice none 0 0, .slice none 0 0, .slice none 0 0, .slice none 0 0, .slice none 0 0, .map none, .slice none 0 0]) := XZ1.bel hbW1
 have HXU : Hid (Blk W1 w1.heap.size [.slice a0 n0 c0, .slice a1 n1 c1, .slice a2 n2 c2, .slice (some ⟨Bb, 0, none⟩) n0 n0, .slice (some ⟨Be, 0, none⟩) n0 n0, .map (some M)]) := XU.bel hbW1
 have HTb : Hid (Tabs lo w1 (fun t => cond t Bb Be) n0 V (bgF g.roads g.roads.length)) := hTb
 have HS : Hid (BSet w1 M g.bans.length (inL g.bans)) := hS
 have hB3 : Hid (Bel w1 W1) := bel_step hbU hbW1
 have HWl : Hid (Wd < W1.heap.size) := WN.lt
 have h0W : (0 : Nat) ≠ Wd := by have := HT1.out.1; have := hT.1; have := HWd.out; have := HUs.out; omega
 clear XG XZ XU XG1 XZ1 hTb hS t0 t1 t2 hT
 go_upto_region 4 with fail
 rw [← HU.out]
 have hmkU := hmk U
 rw [HWd.out, ← HW1.out] at hmkU
 clear hmk
 go_upto_region 5 with fail
 clear x1 hmkU
 have y1 : W1.cell? ⟨w.heap.size, 1, none⟩ = some (.slice a1 n1 c1) := HXG.out.cell 1 (by simp)
 have yl := HXG.out.lt
 go_wp2
 go_loopw [7, 8, 24] (fun _ _ i wr => ∃ k : Nat, k ≤ n1 ∧ i = .int .i64 k ∧ Wnd wr Wd n1 k g ∧ Frx (fun x => x ≠ Wd) W1 wr) (fun _ _ i _ => n1 - (intOf i).toNat)
 case atStart => exact ⟨0, Nat.zero_le _, rfl, WN, Frx.refl _ _⟩
 case round =>
  clear WN y1 yl
  obtain ⟨k, hk, rfl, hWn, hFr⟩ := hrel
  by_cases hlt : k < n1
  ·have hkl : k < g.roads.length := by rw [H1.out]; exact hlt
   obtain ⟨b, off, f, rfl, hb, hx⟩ := (hFr.sl roadE T1.out HB1.out).out hkl
   obtain ⟨_, _, _, _, _, _, _, z0, z1, z2, z3, z4, z5⟩ := hx k hkl
   have hro := roadB_out (HP.out.2.2.1 k hkl)
   obtain ⟨p, hp, ep⟩ := inN_nat (n := g.places.length) (x := g.roads[k].fr) (inN_iff.2 hro.1)
   obtain ⟨q, hq, eq⟩ := inN_nat (n := g.places.length) (x := g.roads[k].to) (inN_iff.2 hro.2.1)
   have HH : Hid (hdR g k = headOf g.places[p].x g.places[p].y g.places[q].x g.places[q].y) := hdR_at hkl hp hq ep eq
   obtain ⟨b', off', f', rfl, hb', _⟩ := (hFr.sl spotE T0.out HB0.out).out hp
   obtain ⟨x0, Hx0⟩ : ∃ x, Hid (g.places[p].x = x) := ⟨_, (rfl : g.places[p].x = _)⟩
   obtain ⟨y0, Hy0⟩ : ∃ x, Hid (g.places[p].y = x) := ⟨_, (rfl : g.places[p].y = _)⟩
   obtain ⟨x1, Hx1⟩ : ∃ x, Hid (g.places[q].x = x) := ⟨_, (rfl : g.places[q].x = _)⟩
   obtain ⟨y1, Hy1⟩ : ∃ x, Hid (g.places[q].y = x) := ⟨_, (rfl : g.places[q].y = _)⟩
   rw [Hx0.out, Hy0.out, Hx1.out, Hy1.out] at HH
   rw [ep] at z0
   rw [eq] at z1
   obtain ⟨d, Hd⟩ : ∃ d, Hid (d = g.roads[k]) := ⟨_, (rfl : g.roads[k] = _)⟩
   rw [← Hd.out] at z2 z3 z4 z5
   obtain ⟨X, HX⟩ : ∃ X, Hid (X = wr.alloc (.cells #[.int .i64 (p : Int), .int .i64 (q : Int), .int .i64 d.way, .int .i64 d.time, .int .i64 d.len, .string d.name] 71)) := ⟨_, (rfl : wr.alloc (.cells #[.int .i64 (p : Int), .int .i64 (q : Int), .int .i64 d.way, .int .i64 d.time, .int .i64 d.len, .string d.name] 71) = _)⟩
   have hbX : Bel wr X := by rw [HX.out]; exact bel_alloc (Bel.refl _) _
   have XX : Blk X wr.heap.size [.int .i64 (p : Int), .int .i64 (q : Int), .int .i64 d.way, .int .i64 d.time, .int .i64 d.len, .string d.name] := by rw [HX.out]; exact Blk.new wr [.int .i64 (p : Int), .int .i64 (q : Int), .int .i64 d.way, .int .i64 d.time, .int .i64 d.len, .string d.name] _
   have hFX := hFr.trans (Frx.bel hbX)
   have hWX := hWn.bel hbX
   have szW : Wd < W1.heap.size := HWl.out
   have szr := hFr.size
   have nR : wr.heap.size ≠ Wd := by omega
   have hpn : (p : Int) < (n0 : Int) := by rw [← H0.out]; omega
   have hqn : (q : Int) < (n0 : Int) := by rw [← H0.out]; omega
   have hS : ∀ w', Frx (fun x => x ≠ Wd) X w' → w'.cell? ⟨w.heap.size, 0, none⟩ = some (.slice (some ⟨b', off', none⟩) n0 c0) ∧ w'.cell? ⟨wr.heap.size, 0, none⟩ = some (.int .i64 (p : Int)) ∧ w'.cell? ⟨wr.heap.size, 1, none⟩ = some (.int .i64 (q : Int)) ∧ w'.cell? ⟨b', off' + p * 3 + 1, none⟩ = some (.int .i64 x0) ∧ w'.cell? ⟨b', off' + p * 3 + 1 + 1, none⟩ = some (.int .i64 y0) ∧ w'.cell? ⟨b', off' + q * 3 + 1, none⟩ = some (.int .i64 x1) ∧ w'.cell? ⟨b', off' + q * 3 + 1 + 1, none⟩ = some (.int .i64 y1) := fun w' h => by
    have h0 := spot_cell ((hFX.trans h).sl spotE T0.out HB0.out) hp
    have h1 := spot_cell ((hFX.trans h).sl spotE T0.out HB0.out) hq
    rw [Hx0.out, Hy0.out] at h0
    rw [Hx1.out, Hy1.out] at h1
    exact ⟨(hFX.trans h).cell HXG.out.lt nWG (HXG.out.cell 0 (by simp)), h.cell XX.lt nR (XX.cell 0 (by simp)), h.cell XX.lt nR (XX.cell 1 (by simp)), h0.1, h0.2, h1.1, h1.2⟩
   have hTX : ∀ w', Frx (fun x => x ≠ Wd) X w' → Winds w' := fun w' h => (hFX.trans h).winds h0W HT1.out
   have g0 : Frx (fun x => x ≠ Wd) X X := Frx.refl _ _
   have hltI : (k : Int) < (n1 : Int) := by omega
   have hSt : ∀ w' u, Frx (fun x => x ≠ Wd) X w' → Frx (fun x => x ≠ Wd) X (w'.setCell ⟨Wd, k, none⟩ u) := fun w' u h => h.trans (Frx.grow (setCell_grown _ _ _ _) (fun x hx hX => hX (by injection hx with hx; exact hx.symm)))
   have HWn : Hid (∀ w', Bel X w' → Wnd w' Wd n1 k g) := fun w' h => hWX.bel h
   have hWc : ∀ w', Bel X w' → (∃ u, w'.cell? ⟨Wd, k, none⟩ = some u) ∧ w'.frozen? ⟨Wd, k, none⟩ = false := fun w' h => ⟨(hWX.bel h).there k hlt, (hWX.bel h).free k⟩
   clear hx hWn XX hro ep eq
   go_upto_region 8 with fail
   rw [← HX.out]
   clear z0 z1 z2 z3 z4 z5
   have hHd : ∀ w', Frx (fun x => x ≠ Wd) X w' → Bel X w' → Calls Tryz.prog 55 #[pt x0 y0, pt x1 y1] w' fun e w2 => e = .returned (.int .i64 (hdR g k)) ∧ Bel w' w2 ∧ Hid (Wnd w2 Wd n1 k g) ∧ (∃ u, w2.cell? ⟨Wd, k, none⟩ = some u) ∧ w2.frozen? ⟨Wd, k, none⟩ = false := fun w' h h2 => by
    refine (heading_any x0 y0 x1 y1 w' (hTX _ h)).mono ?_
    rintro e w2 ⟨rfl, hb2⟩
    exact ⟨by rw [HH.out], hb2, HWn.out w2 (bel_step h2 hb2), (hWc w2 (bel_step h2 hb2)).1, (hWc w2 (bel_step h2 hb2)).2⟩
   clear hWc hTX
   refine wp_region_noPanic ?_
   refine wp_region_held_drew (S := fun w' => Frx (fun x => x ≠ Wd) X w') (by kernel_rfl) (Frx.bel (Bel.drew (Bel.refl _))) (fun hHeld => ?_)
   refine tk 0 hHeld ?_; refine tk 1 hHeld ?_; refine tk 2 hHeld ?_; refine tk 3 hHeld ?_; refine tk 4 hHeld ?_; refine tk 5 hHeld ?_
   refine tk 6 hHeld ?_; refine tk 7 hHeld ?_; refine tk 8 hHeld ?_; refine tk 9 hHeld ?_; refine tk 10 hHeld ?_; refine tk 11 hHeld ?_
   refine tk 12 hHeld ?_; refine tk 13 hHeld ?_; refine tk 14 hHeld ?_; refine tk 15 hHeld ?_
   refine rd1 16 (fun K hK => ?_)
   go_simp
   refine (hHd _ hHeld (Bel.drew (Bel.refl _))).mono ?_
   rintro e w2 ⟨rfl, hb2, hW2, ⟨u2, hc2⟩, hf2⟩
   go_wp2_with fail
   refine hK.out _ _ (hHeld.trans (Frx.bel hb2)) ?_; clear hK K hHeld; intro hHeld
   try simp only [Act.put, List.setIfInBounds_toArray, List.set_cons_zero, List.set_cons_succ]
   refine tk 17 hHeld ?_
   refine rd1 18 (fun K hK => ?_)
   go_simp
   refine hK.out _ _ (hSt _ _ hHeld) ?_; clear hK K hHeld; intro hHeld
   try simp only [Act.put, List.setIfInBounds_toArray, List.set_cons_zero, List.set_cons_succ]
   refine wpAnyH_done (by kernel_rfl) ?_ _
   refine NoPanic.normal ?_
   have HWn2 : Hid (Wnd (w2.setCell ⟨Wd, k, none⟩ (.int .i64 (hdR g k))) Wd n1 (k + 1) g) := hW2.out.put hlt
   have HFr2 : Hid (Frx (fun x => x ≠ Wd) W1 (w2.setCell ⟨Wd, k, none⟩ (.int .i64 (hdR g k)))) := hFX.trans hHeld
   clear hS hHeld hc2 hf2 hHd
   go_wp2
   go_roundw
   case rel => exact ⟨k + 1, by omega, by go_num, HWn2.out, HFr2.out⟩
   case measure => simp [intOf]; omega
  ·have e : k = n1 := by omega
   subst e
   have XN2 := hFr.blk HXU.out nWN
   have XZ2 := hFr.blk HXZ.out nWZ
   have hB4 : Bel w1 wr := Frx.bel_of hB3.out hFr (by have := HWd.out; have := HUs.out; omega)
   have hT2 := HTb.out.bel hB4
   have hS2 := HS.out.bel hB4
   have hBr := bel_step hB1 hB4
   have zWd : w.heap.size ≤ Wd := by have := HWd.out; have := HUs.out; omega
   have s0 : wr.cell? ⟨w1.heap.size, 0, none⟩ = some (.slice a0 n0 c0) := XN2.cell 0 (by simp)
   have s1 : wr.cell? ⟨w1.heap.size, 1, none⟩ = some (.slice a1 k c1) := XN2.cell 1 (by simp)
   have s2 : wr.cell? ⟨w1.heap.size, 2, none⟩ = some (.slice a2 n2 c2) := XN2.cell 2 (by simp)
   have s3 : wr.cell? ⟨w1.heap.size, 3, none⟩ = some (.slice (some ⟨Bb, 0, none⟩) n0 n0) := XN2.cell 3 (by simp)
   have s4 : wr.cell? ⟨w1.heap.size, 4, none⟩ = some (.slice (some ⟨Be, 0, none⟩) n0 n0) := XN2.cell 4 (by simp)
   have s5 : wr.cell? ⟨w1.heap.size, 5, none⟩ = some (.map (some M)) := XN2.cell 5 (by simp)
   have sl := XN2.lt
   have r0 : wr.cell? ⟨w.heap.size + 1, 0, none⟩ = some (.slice none 0 0) := XZ2.cell 0 (by simp)
   have r1 : wr.cell? ⟨w.heap.size + 1, 1, none⟩ = some (.slice none 0 0) := XZ2.cell 1 (by simp)
   have r2 : wr.cell? ⟨w.heap.size + 1, 2, none⟩ = some (.slice none 0 0) := XZ2.cell 2 (by simp)
   have r3 : wr.cell? ⟨w.heap.size + 1, 3, none⟩ = some (.slice none 0 0) := XZ2.cell 3 (by simp)
   have r4 : wr.cell? ⟨w.heap.size + 1, 4, none⟩ = some (.slice none 0 0) := XZ2.cell 4 (by simp)
   have r5 : wr.cell? ⟨w.heap.size + 1, 5, none⟩ = some (.map none) := XZ2.cell 5 (by simp)
   have r6 : wr.cell? ⟨w.heap.size + 1, 6, none⟩ = some (.slice none 0 0) := XZ2.cell 6 (by simp)
   have rf := XZ2.free
   have rl := XZ2.lt
   have HA : Hid (∀ W', wr.grownBy W' (some (w.heap.size + 1)) → StrOut w (.slice a0 n0 c0) (.slice a1 k c1) (.slice a2 n2 c2) g (.returned (.tuple #[.agg #[.slice a0 n0 c0, .slice a1 k c1, .slice a2 n2 c2, .slice (some ⟨Bb, 0, none⟩) n0 n0, .slice (some ⟨Be, 0, none⟩) n0 n0, .map (some M), .slice (some ⟨Wd, 0, none⟩) k k], .bool true])) W') := fun W' hg => by
    refine ⟨⟨lo, Bb, Be, M, Wd, V, by rw [H0.out, H1.out], ?_, ?_, ?_, zm, d1, d2, ⟨by omega, by omega, by omega, by omega⟩, bel_grow hBr hg (fun k hk => by injection hk with hk; omega)⟩⟩
    ·rw [H0.out]; exact hT2.kept hg (by omega) (by show w.heap.size + 1 ≠ Bb; omega) (by show w.heap.size + 1 ≠ Be; omega)
    ·exact hS2.kept hg (fun e => by injection e with e; omega)
    ·rw [H1.out]; exact hWn.frx (X := fun x => x ≠ w.heap.size + 1) (Frx.grow hg (fun x hx hX => hX (by injection hx with hx; exact hx.symm))) (fun e => nWZ e.symm)
   clear hT2 hS2 XN2 XZ2 hBr hWn hFr hB4
   go_wp2
   refine bodyPost_ret (v := .tuple #[.agg #[.slice a0 n0 c0, .slice a1 k c1, .slice a2 n2 c2, .slice (some ⟨Bb, 0, none⟩) n0 n0, .slice (some ⟨Be, 0, none⟩) n0 n0, .map (some M), .slice (some ⟨Wd, 0, none⟩) k k], .bool true]) (by simp [results, Tryz.results41, go_sem, r0, r1, r2, r3, r4, r5, r6]) rfl ?_
   refine HA.out _ ?_
   with_reducible repeat (first | exact World.grownBy.refl _ _ | refine World.grownBy.trans ?_ (setCell_grown _ _ _ _))

set_option maxRecDepth 100000 in
set_option maxHeartbeats 1000000 in
theorem streetsOf_no (a0 : Option Addr) (n0 c0 : Nat) (a1 : Option Addr) (n1 c1 : Nat) (a2 : Option Addr) (n2 c2 : Nat) (g : GraphD) (bs : List Nat) (w : World) (hV : GphV w (gphV a0 n0 c0 a1 n1 c1 a2 n2 c2) g bs) (hQ : GphQ g) (hP : ¬ graphP g) :
  Calls Tryz.prog 41 #[gphV a0 n0 c0 a1 n1 c1 a2 n2 c2] w fun e w' => e = .returned (.tuple #[.agg #[.slice none 0 0, .slice none 0 0, .slice none 0 0, .slice none 0 0, .slice none 0 0, .map none, .slice none 0 0], .bool false]) ∧ Bel w w' := by
 obtain ⟨W, HW⟩ : ∃ W, Hid (W = (w.alloc (.cells #[.slice a0 n0 c0, .slice a1 n1 c1, .slice a2 n2 c2] 34)).alloc (.cells #[.slice none 0 0, .slice none 0 0, .slice none 0 0, .slice none 0 0, .slice none 0 0, .map none, .slice none 0 0] 91)) := ⟨_, (rfl : (w.alloc (.cells #[.slice a0 n0 c0, .slice a1 n1 c1, .slice a2 n2 c2] 34)).alloc (.cells #[.slice none 0 0, .slice none 0 0, .slice none 0 0, .slice none 0 0, .slice none 0 0, .map none, .slice none 0 0] 91) = _)⟩
 have hBW : Bel w W := by rw [HW.out]; exact bel_alloc (bel_alloc (Bel.refl _) _) _
 have XZ : Blk W (w.heap.size + 1) [.slice none 0 0, .slice none 0 0, .slice none 0 0, .slice none 0 0, .slice none 0 0, .map none, .slice none 0 0] := by rw [HW.out]; exact Blk.new1 w _ [.slice none 0 0, .slice none 0 0, .slice none 0 0, .slice none 0 0, .slice none 0 0, .map none, .slice none 0 0] _
 go_enter Tryz.func41, Tryz.ntmps41
 go_wp2_with fail
 rw [← HW.out]
 refine (networkOf_no _ _ _ _ _ _ _ _ _ g bs _ (hV.bel hBW) hQ hP).mono ?_
 rintro e w1 ⟨rfl, hb1⟩
 have hB1 := bel_step hBW hb1
 obtain ⟨U, HU⟩ : ∃ U, Hid (U = w1.alloc (.cells #[.slice none 0 0, .slice none 0 0, .slice none 0 0, .slice none 0 0, .slice none 0 0, .map none] 89)) := ⟨_, (rfl : w1.alloc (.cells #[.slice none 0 0, .slice none 0 0, .slice none 0 0, .slice none 0 0, .slice none 0 0, .map none] 89) = _)⟩
 have hbU : Bel w1 U := by rw [HU.out]; exact bel_alloc (Bel.refl _) _
 have XZ2 := (XZ.bel hb1).bel hbU
 have hBU := bel_step hB1 hbU
 have r0 : U.cell? ⟨w.heap.size + 1, 0, none⟩ = some (.slice none 0 0) := XZ2.cell 0 (by simp)
 have r1 : U.cell? ⟨w.heap.size + 1, 1, none⟩ = some (.slice none 0 0) := XZ2.cell 1 (by simp)
 have r2 : U.cell? ⟨w.heap.size + 1, 2, none⟩ = some (.slice none 0 0) := XZ2.cell 2 (by simp)
 have r3 : U.cell? ⟨w.heap.size + 1, 3, none⟩ = some (.slice none 0 0) := XZ2.cell 3 (by simp)
 have r4 : U.cell? ⟨w.heap.size + 1, 4, none⟩ = some (.slice none 0 0) := XZ2.cell 4 (by simp)
 have r5 : U.cell? ⟨w.heap.size + 1, 5, none⟩ = some (.map none) := XZ2.cell 5 (by simp)
 have r6 : U.cell? ⟨w.heap.size + 1, 6, none⟩ = some (.slice none 0 0) := XZ2.cell 6 (by simp)
 have rf := XZ2.free
 have rl := XZ2.lt
 have HA : Hid (∀ W', U.grownBy W' (some (w.heap.size + 1)) → Bel w W') := fun W' hg => bel_grow hBU hg (fun k hk => by injection hk with hk; omega)
 clear XZ XZ2 hBU
 go_upto_region 2 with fail
 rw [← HU.out]
 go_wp2
 refine bodyPost_ret (v := .tuple #[.agg #[.slice none 0 0, .slice none 0 0, .slice none 0 0, .slice none 0 0, .slice none 0 0, .map none, .slice none 0 0], .bool false]) (by simp [results, Tryz.results41, go_sem, r0, r1, r2, r3, r4, r5, r6]) rfl ?_
 refine ⟨rfl, HA.out _ ?_⟩
 with_reducible repeat (first | exact World.grownBy.refl _ _ | refine World.grownBy.trans ?_ (setCell_grown _ _ _ _))
end Go.Proofs.YtdlgehnoiaoneaaGreatDoor
