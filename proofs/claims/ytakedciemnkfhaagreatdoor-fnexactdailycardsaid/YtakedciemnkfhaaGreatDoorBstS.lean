/-
  The best path in the model: l10Best: contract.
-/
import Derived.Test.YtakedciemnkfhaaGreatDoorHB
import Derived.Test.YtakedciemnkfhaaGreatDoorTsI
import Derived.Deep.AppendLies
namespace Go.Proofs.YtakedciemnkfhaaGreatDoor
open Go.RowKit Go.Maps

theorem Blk.grewB {w a : World} {row : Option Nat} {B : Nat} {vs : List Value} (h : Blk w B vs) (g : w.grownBy a row) (hr : ∀ k, row = some k → B < k) : Blk a B vs :=
 Frx.blk (X := fun x => x = B) (Frx.grow g fun x e hx => by have := hr x e; omega) h rfl
/-- The model's path as it grows. -/
structure BsW (w : World) (nw Pb : Nat) (GV RV : List Value) (t : Int) (g : GraphD) (l : List Nat) (va : Option Addr) (m vc : Nat) (wr : World) : Prop where
 path : Blk wr Pb [.bool true, .slice va m vc, .int .i64 t, .int .i64 (lnS g l)]
 rows : wr.ownsRow (Pb + 1) 2 1 (.slice va m vc) m (intsN l)
 gr : Blk wr nw GV
 rt : Blk wr (nw + 1) RV
 res : Blk wr (nw + 1 + 1) [.bool false, .slice none 0 0, .int .i64 0, .int .i64 0]
 bel : Bel w wr
theorem BsW.then {w : World} {nw Pb : Nat} {GV RV : List Value} {t : Int} {g : GraphD} {l : List Nat} {va : Option Addr} {m vc : Nat} {wr wn : World} (h : BsW w nw Pb GV RV t g l va m vc wr) (hb : Bel wr wn) : BsW w nw Pb GV RV t g l va m vc wn :=
 ⟨h.path.bel hb, own_bel h.rows hb, h.gr.bel hb, h.rt.bel hb, h.res.bel hb, bel_step h.bel hb⟩
/-- One more Road at its end. -/
theorem BsW.add {w : World} {nw Pb : Nat} {GV RV : List Value} {t : Int} {g : GraphD} {l : List Nat} {va : Option Addr} {m vc : Nat} {wr w2 : World} {y g2 cap2 : Nat} (h : BsW w nw Pb GV RV t g l va m vc wr) (hw : w.heap.size = nw) (hP : nw + 1 + 1 < Pb) (hg : (wr.alloc (.cells #[.int .i64 (y : Int)] 2)).grownBy w2 (Value.slice va m vc).ownBlock) (ho : w2.ownsRow (Pb + 1) 2 1 (.slice (some ⟨g2, 0, none⟩) (m + 1) cap2) (m + 1) (intsN l ++ [.int .i64 (y : Int)])) (q : Int) :
  BsW w nw Pb GV RV t g (l ++ [y]) (some ⟨g2, 0, none⟩) (m + 1) cap2 (((w2.setCell ⟨Pb, 1, none⟩ (.slice (some ⟨g2, 0, none⟩) (m + 1) cap2)).drew).setCell ⟨Pb, 3, none⟩ (.int .i64 q)) ∨ q ≠ lnS g (l ++ [y]) := by
 by_cases e : q = lnS g (l ++ [y])
 ·left
  subst e
  have hA := h.then (bel_alloc (Bel.refl wr) (.cells #[.int .i64 (y : Int)] 2))
  have hr : ∀ k, (Value.slice va m vc).ownBlock = some k → Pb + 1 ≤ k := fun k e => (hA.rows.lt k e).1
  have p2 := hA.path.grewB hg (fun k e => by have := hr k e; omega)
  have g2' := hA.gr.grewB hg (fun k e => by have := hr k e; omega)
  have r2 := hA.rt.grewB hg (fun k e => by have := hr k e; omega)
  have z2 := hA.res.grewB hg (fun k e => by have := hr k e; omega)
  have b2 := bel_grow hA.bel hg (fun k e => by have := hr k e; omega)
  have hd : ∀ W : World, Bel W W.drew := fun W => (Bel.refl W).drew
  have i2 : intsN (l ++ [y]) = intsN l ++ [.int .i64 (y : Int)] := by simp [intsN]
  refine ⟨((p2.set 1 (.slice (some ⟨g2, 0, none⟩) (m + 1) cap2) (by simp)).bel (hd _)).set 3 (.int .i64 (lnS g (l ++ [y]))) (by simp), ?_, ((g2'.far (by omega)).bel (hd _)).far (by omega), ((r2.far (by omega)).bel (hd _)).far (by omega), ((z2.far (by omega)).bel (hd _)).far (by omega), bel_set ((bel_set b2 (by rw [hw]; show nw ≤ Pb; omega) _).drew) (by rw [hw]; show nw ≤ Pb; omega) _⟩
  rw [i2]
  exact own_blk (own_bel (own_blk ho (by omega)) (hd _)) (by omega)
 ·exact .inr e
theorem madeZ (rs : List Nat) (m : Nat) (hm : rs.length = m) : (madeCells #[.int .i64 0] m).toList = intsV (rs.map fun _ => (0 : Int)) := by
 rw [toList_madeCells_one]
 subst hm
 simp [intsV, List.map_const']

set_option maxRecDepth 100000 in
set_option maxHeartbeats 8000000 in
theorem l10Best_any (a0 : Option Addr) (n0 c0 : Nat) (a1 : Option Addr) (n1 c1 : Nat) (a2 : Option Addr) (n2 c2 : Nat) (g : GraphD) (b0 b1 b2 : List Nat) (Bt Bc : Nat) (dl : List Cst) (d : Nat → Option Cst) (lo B : Nat) (V : Nat → Value) (s p : Nat) (w : World) (t0 : SpotL w a0 g.places b0) (t1 : RoadL w a1 g.roads b1) (t2 : BanL w a2 g.bans b2) (e0 : g.places.length = n0) (e1 : g.roads.length = n1) (e2 : g.bans.length = n2) (hP : graphP g)
  (hT : Blk w Bt (tmV dl)) (hC : Blk w Bc (ctV dl)) (hn : dl.length = n1) (hd : mO n1 dl = d) (hL : LC n1 g (p : Int) d) (hb : ∀ x, x < n1 → -1 ≤ (cAt dl x).t ∧ (cAt dl x).t ≤ 100000000000) (hTab : Tab1 lo w B n0 V (bgF g.roads n1 true)) (hs : s < n0) :
  Calls Tryz.prog 54 #[gphV a0 n0 c0 a1 n1 c1 a2 n2 c2, .agg #[.slice (some ⟨Bt, 0, none⟩) n1 n1, .slice (some ⟨Bc, 0, none⟩) n1 n1], .slice (some ⟨B, 0, none⟩) n0 n0, .int .i64 (s : Int), .int .i64 (p : Int)] w fun e w' => PthO w.heap.size w' (pthF n1 g d s (p : Int)) e ∧ Bel w w' := by
 obtain ⟨i0, hi0, hz0, hz1, hz2⟩ := info_parts infoI64
 have m1 : n1 ≤ 8000 := by rw [← e1]; exact hP.1.2.1
 have m0 : n0 ≤ 5000 := by rw [← e0]; exact hP.1.1
 obtain ⟨W, HW⟩ : ∃ W, Hid (W = ((w.alloc (.cells #[.slice a0 n0 c0, .slice a1 n1 c1, .slice a2 n2 c2] 36)).alloc (.cells #[.slice (some ⟨Bt, 0, none⟩) n1 n1, .slice (some ⟨Bc, 0, none⟩) n1 n1] 92)).alloc (.cells #[.bool false, .slice none 0 0, .int .i64 0, .int .i64 0] 30)) := ⟨_, (rfl : ((w.alloc (.cells #[.slice a0 n0 c0, .slice a1 n1 c1, .slice a2 n2 c2] 36)).alloc (.cells #[.slice (some ⟨Bt, 0, none⟩) n1 n1, .slice (some ⟨Bc, 0, none⟩) n1 n1] 92)).alloc (.cells #[.bool false, .slice none 0 0, .int .i64 0, .int .i64 0] 30) = _)⟩
 have hBW : Bel w W := by rw [HW.out]; exact bel_alloc (bel_alloc (bel_alloc (Bel.refl _) _) _) _
 have XG : Blk W w.heap.size [.slice a0 n0 c0, .slice a1 n1 c1, .slice a2 n2 c2] := by rw [HW.out]; exact (Blk.new w [.slice a0 n0 c0, .slice a1 n1 c1, .slice a2 n2 c2] _).bel (bel_alloc (bel_alloc (Bel.refl _) _) _)
 have XT : Blk W (w.heap.size + 1) [.slice (some ⟨Bt, 0, none⟩) n1 n1, .slice (some ⟨Bc, 0, none⟩) n1 n1] := by rw [HW.out]; exact (Blk.new1 w _ [.slice (some ⟨Bt, 0, none⟩) n1 n1, .slice (some ⟨Bc, 0, none⟩) n1 n1] _).bel (bel_alloc (Bel.refl _) _)
 have XR : Blk W (w.heap.size + 1 + 1) [.bool false, .slice none 0 0, .int .i64 0, .int .i64 0] := by rw [HW.out]; exact Blk.new2 w _ _ [.bool false, .slice none 0 0, .int .i64 0, .int .i64 0] _
 obtain ⟨nw, Hnw⟩ : ∃ k, Hid (w.heap.size = k) := ⟨_, (rfl : w.heap.size = _)⟩
 rw [Hnw.out] at XG XT XR
 have hle : w.heap.size ≤ nw + 1 + 1 := by rw [Hnw.out]; omega
 have HXG : Hid (Blk W nw [.slice a0 n0 c0, .slice a1 n1 c1, .slice a2 n2 c2]) := XG
 have HXT : Hid (Blk W (nw + 1) [.slice (some ⟨Bt, 0, none⟩) n1 n1, .slice (some ⟨Bc, 0, none⟩) n1 n1]) := XT
 have HXR : Hid (Blk W (nw + 1 + 1) [.bool false, .slice none 0 0, .int .i64 0, .int .i64 0]) := XR
 have HBW : Hid (Bel w W) := hBW
 have HT0 : Hid (SpotL w a0 g.places b0 ∧ RoadL w a1 g.roads b1 ∧ BanL w a2 g.bans b2) := ⟨t0, t1, t2⟩
 have H0 : Hid (g.places.length = n0) := e0
 have H1 : Hid (g.roads.length = n1) := e1
 have H2 : Hid (g.bans.length = n2) := e2
 have HP : Hid (graphP g) := hP
 have HTm : Hid (Blk w Bt (tmV dl)) := hT
 have HCt : Hid (Blk w Bc (ctV dl)) := hC
 have Hn : Hid (dl.length = n1) := hn
 have Hd : Hid (mO n1 dl = d) := hd
 have HL : Hid (LC n1 g (p : Int) d) := hL
 have Hb : Hid (∀ x, x < n1 → -1 ≤ (cAt dl x).t ∧ (cAt dl x).t ≤ 100000000000) := hb
 have HTab : Hid (Tab1 lo w B n0 V (bgF g.roads n1 true)) := hTab
 have HTt : Hid (∀ x, x < n1 → ∀ w', Bel w w' → w'.cell? ⟨Bt, x, none⟩ = some (.int .i64 (cAt dl x).t) ∧ w'.cell? ⟨Bc, x, none⟩ = some (.int .i64 (cAt dl x).c) ∧ Bt < w'.heap.size ∧ Bc < w'.heap.size) := (fun x hx w' h => by
  have hd : x < dl.length := by rw [hn]; exact hx
  have h1 := (hT.bel h).cell x (by simpa using hd)
  have h2 := (hC.bel h).cell x (by simpa using hd)
  rw [List.getElem_map, ← cAt_eq hd] at h1 h2
  exact ⟨h1, h2, (hT.bel h).lt, (hC.bel h).lt⟩ : ∀ x, x < n1 → ∀ w', Bel w w' → w'.cell? ⟨Bt, x, none⟩ = some (.int .i64 (cAt dl x).t) ∧ w'.cell? ⟨Bc, x, none⟩ = some (.int .i64 (cAt dl x).c) ∧ Bt < w'.heap.size ∧ Bc < w'.heap.size)
 have Hrow : Hid (∀ q, q < n0 → ∃ ra rc, ∀ w', Bel w w' → w'.cell? ⟨B, q, none⟩ = some (.slice ra (bgF g.roads n1 true q).length rc) ∧ w'.ownsRow lo 2 1 (.slice ra (bgF g.roads n1 true q).length rc) (bgF g.roads n1 true q).length (intsN (bgF g.roads n1 true q)) ∧ B < w'.heap.size) := (fun q hq => by
  obtain ⟨ra, rc, hv⟩ := own_shape (hTab.rows q hq)
  refine ⟨ra, rc, fun w' h => ?_⟩
  have h1 := (hTab.bel h).cell q hq
  have h2 := (hTab.bel h).rows q hq
  rw [hv] at h1 h2
  exact ⟨h1, h2, Nat.lt_of_lt_of_le hTab.lt (Nat.le_trans hTab.sz h.out.size)⟩ : ∀ q, q < n0 → ∃ ra rc, ∀ w', Bel w w' → w'.cell? ⟨B, q, none⟩ = some (.slice ra (bgF g.roads n1 true q).length rc) ∧ w'.ownsRow lo 2 1 (.slice ra (bgF g.roads n1 true q).length rc) (bgF g.roads n1 true q).length (intsN (bgF g.roads n1 true q)) ∧ B < w'.heap.size)
 obtain ⟨R, HR⟩ : ∃ R, Hid (pthF n1 g d s (p : Int) = R) := ⟨_, (rfl : pthF n1 g d s (p : Int) = _)⟩
 rw [HR.out, Hnw.out]
 by_cases hst : s = p
 ·subst hst
  have HF : Hid (R = ⟨true, [], 0, 0⟩) := (by rw [← HR.out]; unfold pthF; rw [if_pos rfl] : R = ⟨true, [], 0, 0⟩)
  clear t0 t1 t2 hT hC hn hd hL hb hTab XG XT hP e0 e1 e2
  go_enter Tryz.func54, Tryz.ntmps54
  go_upto_region 1 with fail
  rw [← HW.out, Hnw.out]
  have XR0 := HXR.out
  have u0 : W.cell? ⟨nw + 1 + 1, 0, none⟩ = some (.bool false) := XR0.cell 0 (by simp)
  have u1 : W.cell? ⟨nw + 1 + 1, 1, none⟩ = some (.slice none 0 0) := XR0.cell 1 (by simp)
  have u2 : W.cell? ⟨nw + 1 + 1, 2, none⟩ = some (.int .i64 0) := XR0.cell 2 (by simp)
  have u3 : W.cell? ⟨nw + 1 + 1, 3, none⟩ = some (.int .i64 0) := XR0.cell 3 (by simp)
  have f0 := XR0.free 0
  have f1 := XR0.free 1
  have f2 := XR0.free 2
  have f3 := XR0.free 3
  have ul := XR0.lt
  have XE := blk_st4 XR0 (.bool true) (.slice none 0 0) (.int .i64 0) (.int .i64 0)
  have r0 := XE.cell 0 (by simp)
  have r1 := XE.cell 1 (by simp)
  have r2 := XE.cell 2 (by simp)
  have r3 := XE.cell 3 (by simp)
  simp only [List.getElem_cons_zero, List.getElem_cons_succ] at r0 r1 r2 r3
  have HBE : Hid (Bel w (st4 W (nw + 1 + 1) (.bool true) (.slice none 0 0) (.int .i64 0) (.int .i64 0))) := bel_st4 (HBW.out) hle
  obtain ⟨XZ, HXZ⟩ : ∃ T, Hid (T = st4 W (nw + 1 + 1) (.bool true) (.slice none 0 0) (.int .i64 0) (.int .i64 0)) := ⟨_, (rfl : st4 W (nw + 1 + 1) (.bool true) (.slice none 0 0) (.int .i64 0) (.int .i64 0) = _)⟩
  rw [← HXZ.out] at r0 r1 r2 r3 HBE
  clear XE XR0
  go_wp2
  rw [show (((W.setCell ⟨nw + 1 + 1, 0, none⟩ (.bool true)).setCell ⟨nw + 1 + 1, 1, none⟩ (.slice none 0 0)).setCell ⟨nw + 1 + 1, 2, none⟩ (.int .i64 0)).setCell ⟨nw + 1 + 1, 3, none⟩ (.int .i64 0) = XZ from HXZ.out.symm]
  exact bodyPost_ret (v := .agg #[.bool true, .slice none 0 0, .int .i64 0, .int .i64 0]) (by simp [results, Tryz.results54, go_sem, r0, r1, r2, r3]) rfl ⟨by rw [HF.out]; exact ⟨none, 0, rfl, World.ownsRow_nil _ _ _ _⟩, HBE.out⟩
 have hse : ((s : Int) == (p : Int)) = false := by rw [beq_eq_false_iff_ne]; omega
 have HRm : Hid (R = pthO n1 g d (miF d (bgF g.roads n1 true s))) := (by rw [← HR.out]; exact pthF_ne (by omega) : R = pthO n1 g d (miF d (bgF g.roads n1 true s)))
 obtain ⟨ra, rc, hrw⟩ := Hrow.out s hs
 have Hmem : Hid (∀ y ∈ bgF g.roads n1 true s, y < n1) := fun y hy => bgF_mem hy
 have Hfst : Hid (miF (chF dl fun _ => 0) (bgF g.roads n1 true s) = miF d (bgF g.roads n1 true s)) := best_first hd
 obtain ⟨m, Hm⟩ : ∃ k, Hid ((bgF g.roads n1 true s).length = k) := ⟨_, (rfl : (bgF g.roads n1 true s).length = _)⟩
 rw [Hm.out] at hrw
 have mm : m ≤ 8000 := by rw [← Hm.out]; exact Nat.le_trans (bgF_len _ _ _ _) m1
 obtain ⟨a, Ha⟩ : ∃ q, Hid (miF d (bgF g.roads n1 true s) = q) := ⟨_, (rfl : miF d (bgF g.roads n1 true s) = _)⟩
 rw [Ha.out] at Hfst HRm
 have hsI : (s : Int) < (n0 : Int) := by omega
 have hmk : ∀ w : World, (Instr.makeSlice 27 (.int .i64 m) (.int .i64 m)).run Tryz.prog w = .ok (.slice (some ⟨w.heap.size, 0, none⟩) m m) (w.alloc (.cells (madeCells #[.int .i64 0] m) 2)) := fun w => by
  have := run_make (P := Tryz.prog) w 27 2 i0 (.int .i64 0) Tryz.underlying27 hi0 hz0 .i64 .i64 m m (by omega) (by omega) (by rw [hz2]; omega) (by omega)
  rw [hz1, Nat.mul_one] at this
  exact this
 have HS3 : Hid (∀ w', Bel W w' → w'.cell? ⟨nw + 1, 0, none⟩ = some (.slice (some ⟨Bt, 0, none⟩) n1 n1) ∧ w'.cell? ⟨nw + 1, 1, none⟩ = some (.slice (some ⟨Bc, 0, none⟩) n1 n1) ∧ w'.cell? ⟨B, s, none⟩ = some (.slice ra m rc)) := (fun w' h => ⟨(HXT.out.bel h).cell 0 (by simp), (HXT.out.bel h).cell 1 (by simp), (hrw w' (bel_step HBW.out h)).1⟩ : ∀ w', Bel W w' → w'.cell? ⟨nw + 1, 0, none⟩ = some (.slice (some ⟨Bt, 0, none⟩) n1 n1) ∧ w'.cell? ⟨nw + 1, 1, none⟩ = some (.slice (some ⟨Bc, 0, none⟩) n1 n1) ∧ w'.cell? ⟨B, s, none⟩ = some (.slice ra m rc))
 have HRw : Hid (∀ w', Bel w w' → w'.ownsRow lo 2 1 (.slice ra m rc) m (intsN (bgF g.roads n1 true s))) := fun w' h => (hrw w' h).2.1
 clear t0 t1 t2 hT hC hn hd hL hb hTab XG XT XR hP e0 e1 e2 hBW hrw
 go_enter Tryz.func54, Tryz.ntmps54
 go_upto_region 3 with fail
 rw [← HW.out, Hnw.out]
 go_cut [11] (fun v wx => v = .int .i64 (chX a) ∧ Hid (Bel W wx))
 case first =>
  as_aux_lemma =>
  refine wp_region_noPanic ?_
  refine wp_region_held_drew (S := fun w' => w'.cell? ⟨nw + 1, 0, none⟩ = some (.slice (some ⟨Bt, 0, none⟩) n1 n1) ∧ w'.cell? ⟨nw + 1, 1, none⟩ = some (.slice (some ⟨Bc, 0, none⟩) n1 n1) ∧ w'.cell? ⟨B, s, none⟩ = some (.slice ra m rc)) (by kernel_rfl) (HS3.out _ (Bel.refl _).drew) (fun hHeld => ?_)
  have hY0 : Bel W W.drew := (Bel.refl _).drew
  generalize W.drew = Y at hHeld hY0 ⊢
  refine tk 0 hHeld ?_; refine tk 1 hHeld ?_; refine tk 2 hHeld ?_; refine tk 3 hHeld ?_; refine tk 4 hHeld ?_; refine tk 5 hHeld ?_; refine tk 6 hHeld ?_; refine tk 7 hHeld ?_; refine tk 8 hHeld ?_; refine tk 9 hHeld ?_
  refine rd1 10 (fun K hK => ?_)
  go_simp
  have hYA : Bel Y (Y.alloc (.cells (madeCells #[.int .i64 0] m) 2)) := bel_alloc (Bel.refl Y) _
  have hOE : (Y.alloc (.cells (madeCells #[.int .i64 0] m) 2)).ownsRow Y.heap.size 2 1 (.slice (some ⟨Y.heap.size, 0, none⟩) m m) m (intsV ((bgF g.roads n1 true s).map fun _ => (0 : Int))) := by
   rw [← madeZ _ m Hm.out]
   exact World.ownsRow_lit Y _ m (Nat.le_refl _) (by unfold maxLen; omega) (by rw [← Array.length_toList, toList_madeCells_one]; simp)
  refine hK.out _ _ (HS3.out _ (bel_step hY0 hYA)) ?_; clear hK K hHeld; intro hHeld
  try simp only [Act.put, List.setIfInBounds_toArray, List.set_cons_zero, List.set_cons_succ]
  have cC := l10Choose_any Bt Bc n1 dl (bgF g.roads n1 true s) (fun _ => 0) ra m rc _ m lo _ _ (HTm.out.bel (bel_step (bel_step HBW.out hY0) hYA)) (HCt.out.bel (bel_step (bel_step HBW.out hY0) hYA)) Hn.out Hmem.out (HRw.out _ (bel_step (bel_step HBW.out hY0) hYA)) Hm.out hOE Hb.out (fun _ => ⟨by decide, by decide⟩) mm
  rw [Hfst.out] at cC
  have hZ1 := bel_step hY0 hYA
  generalize Y.alloc (.cells (madeCells #[.int .i64 0] m) 2) = YA at *
  refine rd1 11 (fun K hK => ?_)
  go_simp
  refine cC.mono ?_
  rintro e Z ⟨rfl, hbZ⟩
  have hZ2 := bel_step hZ1 hbZ
  go_wp2_with fail
  refine hK.out _ _ (HS3.out _ hZ2) ?_; clear hK K hHeld; intro hHeld
  try simp only [Act.put, List.setIfInBounds_toArray, List.set_cons_zero, List.set_cons_succ]
  refine tk 12 hHeld ?_
  refine wpAnyH_done (by kernel_rfl) ?_ _
  refine NoPanic.normal ?_
  go_wp2_with fail
  go_meet
  case rel => exact ⟨rfl, hZ2⟩
 case rest =>
  obtain ⟨rfl, HBc⟩ := hcut
  obtain ⟨wq, rfl⟩ : ∃ V, V = wc := ⟨_, rfl⟩
  have HBq : Hid (Bel w wq) := bel_step HBW.out HBc.out
  have HXGq : Hid (Blk wq nw [.slice a0 n0 c0, .slice a1 n1 c1, .slice a2 n2 c2]) := HXG.out.bel HBc.out
  have HXTq : Hid (Blk wq (nw + 1) [.slice (some ⟨Bt, 0, none⟩) n1 n1, .slice (some ⟨Bc, 0, none⟩) n1 n1]) := HXT.out.bel HBc.out
  have HXRq : Hid (Blk wq (nw + 1 + 1) [.bool false, .slice none 0 0, .int .i64 0, .int .i64 0]) := HXR.out.bel HBc.out
  clear HXG HXT HXR HS3 hmk HRw Hfst Hmem
  cases a with
  | none =>
   have HF : Hid (R = ⟨false, [], 0, 0⟩) := HRm.out
   simp only [chX, Option.map_none, nxI]
   have XR0 := HXRq.out
   have u0 : wq.cell? ⟨nw + 1 + 1, 0, none⟩ = some (.bool false) := XR0.cell 0 (by simp)
   have u1 : wq.cell? ⟨nw + 1 + 1, 1, none⟩ = some (.slice none 0 0) := XR0.cell 1 (by simp)
   have u2 : wq.cell? ⟨nw + 1 + 1, 2, none⟩ = some (.int .i64 0) := XR0.cell 2 (by simp)
   have u3 : wq.cell? ⟨nw + 1 + 1, 3, none⟩ = some (.int .i64 0) := XR0.cell 3 (by simp)
   have f0 := XR0.free 0
   have f1 := XR0.free 1
   have f2 := XR0.free 2
   have f3 := XR0.free 3
   have ul := XR0.lt
   have XE := blk_st4 XR0 (.bool false) (.slice none 0 0) (.int .i64 0) (.int .i64 0)
   have r0 := XE.cell 0 (by simp)
   have r1 := XE.cell 1 (by simp)
   have r2 := XE.cell 2 (by simp)
   have r3 := XE.cell 3 (by simp)
   simp only [List.getElem_cons_zero, List.getElem_cons_succ] at r0 r1 r2 r3
   have HBE : Hid (Bel w (st4 wq (nw + 1 + 1) (.bool false) (.slice none 0 0) (.int .i64 0) (.int .i64 0))) := bel_st4 (HBq.out) hle
   obtain ⟨XZ, HXZ⟩ : ∃ T, Hid (T = st4 wq (nw + 1 + 1) (.bool false) (.slice none 0 0) (.int .i64 0) (.int .i64 0)) := ⟨_, (rfl : st4 wq (nw + 1 + 1) (.bool false) (.slice none 0 0) (.int .i64 0) (.int .i64 0) = _)⟩
   rw [← HXZ.out] at r0 r1 r2 r3 HBE
   clear XE XR0
   go_wp2
   rw [show (((wq.setCell ⟨nw + 1 + 1, 0, none⟩ (.bool false)).setCell ⟨nw + 1 + 1, 1, none⟩ (.slice none 0 0)).setCell ⟨nw + 1 + 1, 2, none⟩ (.int .i64 0)).setCell ⟨nw + 1 + 1, 3, none⟩ (.int .i64 0) = XZ from HXZ.out.symm]
   exact bodyPost_ret (v := .agg #[.bool false, .slice none 0 0, .int .i64 0, .int .i64 0]) (by simp [results, Tryz.results54, go_sem, r0, r1, r2, r3]) rfl ⟨by rw [HF.out]; exact ⟨none, 0, rfl, World.ownsRow_nil _ _ _ _⟩, HBE.out⟩
  | some b =>
   obtain ⟨x0, k0⟩ := b
   have hx0 : d x0 = some k0 := (miF_mem Ha.out).2
   have hbd0 := HL.out.bd x0 k0 hx0
   obtain ⟨F, HFd⟩ : ∃ F, Hid (chR n1 g d k0.c.toNat x0 = F) := ⟨_, (rfl : chR n1 g d k0.c.toNat x0 = _)⟩
   have HRF : Hid (R = ⟨true, F, k0.t, lnS g F⟩) := (by rw [← HFd.out]; exact HRm.out : R = ⟨true, F, k0.t, lnS g F⟩)
   have HFl : Hid (F.length ≤ 8001) := (by rw [← HFd.out, HL.out.len _ _ _ hx0 (by omega)]; omega : F.length ≤ 8001)
   have HFm : Hid (∀ x ∈ F, x < n1) := (by rw [← HFd.out]; exact HL.out.lt _ _ _ hx0 (by omega) : ∀ x ∈ F, x < n1)
   have hk0 : cAt dl x0 = k0 := by
    have h := hx0
    rw [← Hd.out] at h
    exact (mO_some.1 h).2.1
   have HI0 : Hid (d x0 = some k0 ∧ [] ++ chR n1 g d k0.c.toNat x0 = F) := ⟨hx0, HFd.out⟩
   obtain ⟨y0, y1, yl0, yl1⟩ := HTt.out x0 hbd0.1 wq HBq.out
   rw [hk0] at y0 y1
   have z0 : wq.cell? ⟨nw + 1, 0, none⟩ = some (.slice (some ⟨Bt, 0, none⟩) n1 n1) := HXTq.out.cell 0 (by simp)
   have z1 : wq.cell? ⟨nw + 1, 1, none⟩ = some (.slice (some ⟨Bc, 0, none⟩) n1 n1) := HXTq.out.cell 1 (by simp)
   have zl := HXTq.out.lt
   have hxI0 : (x0 : Int) < (n1 : Int) := by have := hbd0.1; omega
   have hpos0 : ¬ (x0 : Int) < 0 := by omega
   have hposd : decide ((x0 : Int) < 0) = false := by rw [decide_eq_false_iff_not]; omega
   obtain ⟨w6, Hw6⟩ : ∃ X, Hid (X = wq.alloc (.cells #[.bool true, .slice none 0 0, .int .i64 k0.t, .int .i64 0] 30)) := ⟨_, (rfl : wq.alloc (.cells #[.bool true, .slice none 0 0, .int .i64 k0.t, .int .i64 0] 30) = _)⟩
   have hb6 : Bel wq w6 := by rw [Hw6.out]; exact bel_alloc (Bel.refl _) _
   obtain ⟨Pb, HPb⟩ : ∃ k, Hid (wq.heap.size = k) := ⟨_, (rfl : wq.heap.size = _)⟩
   have HPg : Hid (nw + 1 + 1 < Pb) := (by rw [← HPb.out]; exact HXRq.out.lt : nw + 1 + 1 < Pb)
   have HBs0 : Hid (BsW w nw Pb [.slice a0 n0 c0, .slice a1 n1 c1, .slice a2 n2 c2] [.slice (some ⟨Bt, 0, none⟩) n1 n1, .slice (some ⟨Bc, 0, none⟩) n1 n1] k0.t g [] none 0 0 w6) := (by
    refine ⟨?_, World.ownsRow_nil _ _ _ _, HXGq.out.bel hb6, HXTq.out.bel hb6, HXRq.out.bel hb6, bel_step HBq.out hb6⟩
    rw [Hw6.out, ← HPb.out]
    exact Blk.new wq [.bool true, .slice none 0 0, .int .i64 k0.t, .int .i64 0] _ : BsW w nw Pb [.slice a0 n0 c0, .slice a1 n1 c1, .slice a2 n2 c2] [.slice (some ⟨Bt, 0, none⟩) n1 n1, .slice (some ⟨Bc, 0, none⟩) n1 n1] k0.t g [] none 0 0 w6)
   have y1' : w6.cell? ⟨Bc, x0, none⟩ = some (.int .i64 k0.c) := bel_cellM hb6 yl1 y1
   have z1' : w6.cell? ⟨nw + 1, 1, none⟩ = some (.slice (some ⟨Bc, 0, none⟩) n1 n1) := bel_cellM hb6 zl z1
   have zl' := bel_lt hb6 zl
   have yl1' := bel_lt hb6 yl1
   have hkc : 1 ≤ k0.c ∧ k0.c ≤ 8001 := by omega
   clear HXGq HXTq HXRq hk0 hbd0 hx0 HRm Ha
   simp only [chX, Option.map_some, nxI]
   go_upto_region 7 with fail
   rw [← Hw6.out]
   try rw [HPb.out]
   go_wp2_with fail
   clear y0 y1 yl0 yl1 z0 z1 zl y1' z1' zl' yl1' hb6
   go_loopw [11, 13, 14, 15, 16, 17] (fun x n _ _ _ _ wr => ∃ (l : List Nat) (y : Nat) (c : Cst) (va : Option Addr) (m vc : Nat), x = .int .i64 (y : Int) ∧ n = .int .i64 c.c ∧ Hid (d y = some c ∧ l ++ chR n1 g d c.c.toNat y = F) ∧ Hid (l.length = m) ∧ Hid (BsW w nw Pb [.slice a0 n0 c0, .slice a1 n1 c1, .slice a2 n2 c2] [.slice (some ⟨Bt, 0, none⟩) n1 n1, .slice (some ⟨Bc, 0, none⟩) n1 n1] k0.t g l va m vc wr)) (fun _ n _ _ _ _ _ => (intOf n).toNat)
   case atStart => exact ⟨[], x0, k0, none, 0, 0, rfl, rfl, HI0, (rfl : [].length = 0), HBs0⟩
   case round =>
    clear HI0 HBs0 hxI0 hpos0 hposd hkc
    obtain ⟨l, y, c, va, m, vc, rfl, rfl, HI, Hl, HBs⟩ := hrel
    obtain ⟨wo, rfl⟩ : ∃ V, V = wr := ⟨_, rfl⟩
    obtain ⟨hdy, hap⟩ := HI.out
    have hbd := HL.out.bd y c hdy
    have hyn := hbd.1
    obtain ⟨hlF, hnext⟩ := RfR.step HL.out hdy hap
    have hyF : y ∈ F := by
     rw [← hap]
     refine List.mem_append.2 (.inr ?_)
     obtain ⟨j, hj⟩ : ∃ j, c.c.toNat = j + 1 := ⟨c.c.toNat - 1, by omega⟩
     rw [hj, chR]
     exact List.mem_cons.2 (.inl rfl)
    have hFl := HFl.out
    rw [Hl.out] at hlF
    have mb : m ≤ 8001 := by omega
    have hyg : y < g.roads.length := by rw [H1.out]; exact hyn
    have hcy : cAt dl y = c := by
     have h := hdy
     rw [← Hd.out] at h
     exact (mO_some.1 h).2.1
    have hrb := roadB_out (HP.out.2.2.1 y hyg)
    rw [← rdAt_eq hyg] at hrb
    obtain ⟨b, off, ff, ea, hbl, hrx⟩ := HT0.out.2.1.out hyg
    have Hea : Hid (a1 = some ⟨b, off, none⟩) := ea
    clear ea
    obtain ⟨_, _, _, _, _, _, _, _, yto, _, yti, yle, _⟩ := hrx y hyg
    rw [← rdAt_eq hyg] at yto yti yle
    obtain ⟨q, hqe⟩ : ∃ q : Nat, (rdAt g y).to = (q : Int) := ⟨(rdAt g y).to.toNat, by omega⟩
    have hq : q < n0 := by rw [← H0.out]; omega
    rw [hqe] at yto
    obtain ⟨ti, Hti⟩ : ∃ k, Hid ((rdAt g y).time = k) := ⟨_, (rfl : (rdAt g y).time = _)⟩
    obtain ⟨le, Hle⟩ : ∃ k, Hid ((rdAt g y).len = k) := ⟨_, (rfl : (rdAt g y).len = _)⟩
    rw [Hti.out] at yti hrb
    rw [Hle.out] at yle hrb
    have htib : 1 ≤ ti ∧ ti ≤ 1000000 := by omega
    have HRd : Hid (∀ w', Bel w w' → w'.cell? ⟨b, off + y * 6 + 1, none⟩ = some (.int .i64 (q : Int)) ∧ w'.cell? ⟨b, off + y * 6 + 3, none⟩ = some (.int .i64 ti) ∧ w'.cell? ⟨b, off + y * 6 + 4, none⟩ = some (.int .i64 le) ∧ b < w'.heap.size) := fun w' h => ⟨bel_cellM h hbl yto, bel_cellM h hbl yti, bel_cellM h hbl yle, bel_lt h hbl⟩
    have hbnw : b < nw := by rw [← Hnw.out]; exact hbl
    have hLb := lnS_bd HP.out l (fun x hx => by rw [H1.out]; exact HFm.out x (by rw [← hap]; exact List.mem_append.2 (.inl hx)))
    rw [Hl.out] at hLb
    have HLs : Hid (lnS g (l ++ [y]) = lnS g l + le) := (by rw [lnS_append, ← Hle.out]; simp [lnS] : lnS g (l ++ [y]) = lnS g l + le)
    obtain ⟨ls, Hls⟩ : ∃ k, Hid (lnS g l = k) := ⟨_, (rfl : lnS g l = _)⟩
    rw [Hls.out] at hLb HLs
    have hlb : 0 ≤ ls ∧ ls ≤ 8001 * 1000000000 := by omega
    have hwl : IntKind.i64.wrap (ls + le) = ls + le := by rw [IntKind.wrap_i64]; omega
    have hgt : (0 : Int) < c.c := by omega
    have hgt2 : c.c > 0 := by omega
    have hgtd : decide (c.c > 0) = true := by simp [hgt2]
    have hgtd2 : decide ((0 : Int) < c.c) = true := by simp [hgt]
    have hyI : (y : Int) < (n1 : Int) := by omega
    have hcb : 1 ≤ c.c ∧ c.c ≤ 8001 := by omega
    have Hdy : Hid (d y = some c) := hdy
    have Hap : Hid (l ++ chR n1 g d c.c.toNat y = F) := hap
    have hp1 : wo.cell? ⟨Pb, 1, none⟩ = some (.slice va m vc) := HBs.out.path.cell 1 (by simp)
    have hpl := HBs.out.path.lt
    have hB1 := HBs.out.then (bel_alloc (Bel.refl wo) (.cells #[.int .i64 (y : Int)] 2))
    have hownA := hB1.rows
    have hnews : Hid (∀ j u, [Value.int .i64 (y : Int)][j]? = some u → (wo.alloc (.cells #[.int .i64 (y : Int)] 2)).cell? (Addr.add ⟨wo.heap.size, 0, none⟩ j) = some u) := World.news_of_block (cs := #[.int .i64 (y : Int)]) (heap_alloc_new wo _)
    have hPs : Pb + 1 ≤ wo.heap.size := hpl
    have HPA : Hid (Blk (wo.alloc (.cells #[.int .i64 (y : Int)] 2)) Pb [.bool true, .slice va m vc, .int .i64 k0.t, .int .i64 (lnS g l)]) := hB1.path
    have HrA : Hid (∀ k, (Value.slice va m vc).ownBlock = some k → Pb + 1 ≤ k) := fun k e => (hB1.rows.lt k e).1
    have HHc : Hid (cAt dl y = c) := hcy
    have HHq : Hid ((rdAt g y).to = (q : Int)) := hqe
    have HLl2 : Hid ((l ++ [y]).length = m + 1) := (by rw [List.length_append, Hl.out]; rfl : (l ++ [y]).length = m + 1)
    have HNx : Hid (RfR n1 g d F (l ++ [y]) (nxR n1 g d y)) := hnext
    clear hdy hap hnext hrx yto yti yle hrb hbl hB1 hcy hqe hLb hyF hlF
    go_wp2_with (first
     | (at_builtin; refine wpList_append_lies _ rfl _ _ 27 rfl (Pb + 1) 2 i0 (.int .i64 0) 1 8 Tryz.underlying27 hi0 hz0 hz1 hz2 rfl (by decide) _ _ _ rfl hownA ⟨wo.heap.size, 0, none⟩ 1 1 [.int .i64 (y : Int)] rfl rfl hnews.out (by simp [Value.oneCell']) (by decide) (by unfold maxLen; omega) (by omega) (by simp; omega) (wo.heap.size + 1) (by simp) ?_)
     | go_in)
    intro g2 cap2 w2 hown2 hgrow hat _
    have X2 := HPA.out.grewB hgrow (fun k e => by have := HrA.out k e; omega)
    have c2' : w2.cell? ⟨Pb, 1, none⟩ = some (.slice va m vc) := X2.cell 1 (by simp)
    have c2f := X2.free 1
    have c2l := X2.lt
    have HB3 : Hid (BsW w nw Pb [.slice a0 n0 c0, .slice a1 n1 c1, .slice a2 n2 c2] [.slice (some ⟨Bt, 0, none⟩) n1 n1, .slice (some ⟨Bc, 0, none⟩) n1 n1] k0.t g (l ++ [y]) (some ⟨g2, 0, none⟩) (m + 1) cap2 (((w2.setCell ⟨Pb, 1, none⟩ (.slice (some ⟨g2, 0, none⟩) (m + 1) cap2)).drew).setCell ⟨Pb, 3, none⟩ (.int .i64 (ls + le)))) := (HBs.out.add Hnw.out HPg.out hgrow hown2 (ls + le)).resolve_right (fun h => h HLs.out.symm)
    have X3 : Blk (w2.setCell ⟨Pb, 1, none⟩ (.slice (some ⟨g2, 0, none⟩) (m + 1) cap2)) Pb [.bool true, .slice (some ⟨g2, 0, none⟩) (m + 1) cap2, .int .i64 k0.t, .int .i64 (lnS g l)] := X2.set 1 _ (by simp)
    rw [Hls.out] at X3
    have HG3 : Hid (Blk (w2.setCell ⟨Pb, 1, none⟩ (.slice (some ⟨g2, 0, none⟩) (m + 1) cap2)) nw [.slice a0 n0 c0, .slice a1 n1 c1, .slice a2 n2 c2]) := (((HBs.out.then (bel_alloc (Bel.refl wo) (.cells #[.int .i64 (y : Int)] 2))).gr.grewB hgrow (fun k e => by have := HrA.out k e; have := HPg.out; omega)).far (by have := HPg.out; omega))
    have hB3 : Bel w (w2.setCell ⟨Pb, 1, none⟩ (.slice (some ⟨g2, 0, none⟩) (m + 1) cap2)) := bel_set (bel_grow (bel_step HBs.out.bel (bel_alloc (Bel.refl wo) (.cells #[.int .i64 (y : Int)] 2))) hgrow (fun k e => by have := HrA.out k e; have := HPg.out; rw [Hnw.out]; omega)) (by rw [Hnw.out]; show nw ≤ Pb; have := HPg.out; omega) _
    have HB3w := hB3.drew
    clear hown2 hgrow hat hownA X2 hp1
    go_upto_region 11 with fail
    clear c2' c2f c2l
    obtain ⟨w3, Hw3⟩ : ∃ X, Hid (X = w2.setCell ⟨Pb, 1, none⟩ (.slice (some ⟨g2, 0, none⟩) (m + 1) cap2)) := ⟨_, (rfl : w2.setCell ⟨Pb, 1, none⟩ (.slice (some ⟨g2, 0, none⟩) (m + 1) cap2) = _)⟩
    rw [← Hw3.out] at HB3 X3 HG3 HB3w ⊢
    have HS11 : w3.drew.cell? ⟨nw, 1, none⟩ = some (.slice (some ⟨b, off, none⟩) n1 c1) ∧ w3.drew.cell? ⟨b, off + y * 6 + 4, none⟩ = some (.int .i64 le) := ⟨by rw [← Hea.out]; exact HG3.out.cell 1 (by simp), (HRd.out _ HB3w).2.2.1⟩
    have p3 : w3.drew.cell? ⟨Pb, 3, none⟩ = some (.int .i64 ls) := X3.cell 3 (by simp)
    have p3f : w3.drew.frozen? ⟨Pb, 3, none⟩ = false := X3.free 3
    have p3l : Pb < w3.drew.heap.size := X3.lt
    have hPn : nw < Pb := by have := HPg.out; omega
    have hPbb : b < Pb := by omega
    clear hB3 X3 HG3 HB3w
    refine wp_region_noPanic ?_
    refine wp_region_held_drew (S := fun w' => w'.cell? ⟨nw, 1, none⟩ = some (.slice (some ⟨b, off, none⟩) n1 c1) ∧ w'.cell? ⟨b, off + y * 6 + 4, none⟩ = some (.int .i64 le)) (by kernel_rfl) HS11 (fun hHeld => ?_)
    clear HS11
    generalize w3.drew = Y at hHeld p3 p3f p3l HB3 ⊢
    refine tk 0 hHeld ?_; refine tk 2 hHeld ?_; refine tk 3 hHeld ?_; refine tk 4 hHeld ?_; refine tk 5 hHeld ?_; refine tk 6 hHeld ?_; refine tk 7 hHeld ?_
    refine rd1 1 (fun K hK => ?_)
    go_simp
    refine hK.out _ _ hHeld ?_; clear hK K hHeld; intro hHeld
    try simp only [Act.put, List.setIfInBounds_toArray, List.set_cons_zero, List.set_cons_succ]
    refine tk 8 hHeld ?_; refine tk 9 hHeld ?_
    refine rd1 10 (fun K hK => ?_)
    go_simp
    refine hK.out _ _ ⟨by rw [World.cell?_setCell_other _ _ _ _ (fun e => by have h : Pb = nw := congrArg Addr.block e; omega)]; exact hHeld.1, by rw [World.cell?_setCell_other _ _ _ _ (fun e => by have h : Pb = b := congrArg Addr.block e; omega)]; exact hHeld.2⟩ ?_; clear hK K hHeld; intro hHeld
    try simp only [Act.put, List.setIfInBounds_toArray, List.set_cons_zero, List.set_cons_succ]
    refine wpAnyH_done (by kernel_rfl) ?_ _
    refine NoPanic.normal ?_
    clear hHeld p3 p3f p3l Hw3
    obtain ⟨w4, Hw4⟩ : ∃ X, Hid (X = Y.setCell ⟨Pb, 3, none⟩ (.int .i64 (ls + le))) := ⟨_, (rfl : Y.setCell ⟨Pb, 3, none⟩ (.int .i64 (ls + le)) = _)⟩
    rw [← Hw4.out] at HB3 ⊢
    clear Hw4
    by_cases h1 : c.c = 1
    ·as_aux_lemma =>
     have hone : (c.c == 1) = true := by simp [h1]
     have HFe : Hid (l ++ [y] = F) := (by
      have h := HNx.out
      rw [HL.out.one Hdy.out h1] at h
      exact h : l ++ [y] = F)
     have hX := HB3.out
     rw [HFe.out] at hX
     have HFm1 : Hid (F.length = m + 1) := (by rw [← HFe.out]; exact HLl2.out : F.length = m + 1)
     have hxp := hX.path
     obtain ⟨ln, Hln⟩ : ∃ k, Hid (lnS g F = k) := ⟨_, (rfl : lnS g F = _)⟩
     rw [Hln.out] at hxp
     have v0 : w4.cell? ⟨Pb, 0, none⟩ = some (.bool true) := hxp.cell 0 (by simp)
     have v1 : w4.cell? ⟨Pb, 1, none⟩ = some (.slice (some ⟨g2, 0, none⟩) (m + 1) cap2) := hxp.cell 1 (by simp)
     have v2 : w4.cell? ⟨Pb, 2, none⟩ = some (.int .i64 k0.t) := hxp.cell 2 (by simp)
     have v3 : w4.cell? ⟨Pb, 3, none⟩ = some (.int .i64 ln) := hxp.cell 3 (by simp)
     have vl := hxp.lt
     have HOf : Hid (w4.ownsRow (Pb + 1) 2 1 (.slice (some ⟨g2, 0, none⟩) (m + 1) cap2) (m + 1) (intsN F)) := hX.rows
     have hRs := hX.res
     have hBw4 := hX.bel
     clear hX hxp
     have XR0 := hRs
     have u0 : w4.cell? ⟨nw + 1 + 1, 0, none⟩ = some (.bool false) := XR0.cell 0 (by simp)
     have u1 : w4.cell? ⟨nw + 1 + 1, 1, none⟩ = some (.slice none 0 0) := XR0.cell 1 (by simp)
     have u2 : w4.cell? ⟨nw + 1 + 1, 2, none⟩ = some (.int .i64 0) := XR0.cell 2 (by simp)
     have u3 : w4.cell? ⟨nw + 1 + 1, 3, none⟩ = some (.int .i64 0) := XR0.cell 3 (by simp)
     have f0 := XR0.free 0
     have f1 := XR0.free 1
     have f2 := XR0.free 2
     have f3 := XR0.free 3
     have ul := XR0.lt
     have XE := blk_st4 XR0 (.bool true) (.slice (some ⟨g2, 0, none⟩) (m + 1) cap2) (.int .i64 k0.t) (.int .i64 ln)
     have r0 := XE.cell 0 (by simp)
     have r1 := XE.cell 1 (by simp)
     have r2 := XE.cell 2 (by simp)
     have r3 := XE.cell 3 (by simp)
     simp only [List.getElem_cons_zero, List.getElem_cons_succ] at r0 r1 r2 r3
     have HBE : Hid (Bel w (st4 w4 (nw + 1 + 1) (.bool true) (.slice (some ⟨g2, 0, none⟩) (m + 1) cap2) (.int .i64 k0.t) (.int .i64 ln))) := bel_st4 (hBw4) hle
     obtain ⟨XZ, HXZ⟩ : ∃ T, Hid (T = st4 w4 (nw + 1 + 1) (.bool true) (.slice (some ⟨g2, 0, none⟩) (m + 1) cap2) (.int .i64 k0.t) (.int .i64 ln)) := ⟨_, (rfl : st4 w4 (nw + 1 + 1) (.bool true) (.slice (some ⟨g2, 0, none⟩) (m + 1) cap2) (.int .i64 k0.t) (.int .i64 ln) = _)⟩
     have HOE : Hid ((st4 w4 (nw + 1 + 1) (.bool true) (.slice (some ⟨g2, 0, none⟩) (m + 1) cap2) (.int .i64 k0.t) (.int .i64 ln)).ownsRow nw 2 1 (.slice (some ⟨g2, 0, none⟩) (m + 1) cap2) (m + 1) (intsN F)) := own_lo (own_blk (own_blk (own_blk (own_blk HOf.out (by have := HPg.out; omega)) (by have := HPg.out; omega)) (by have := HPg.out; omega)) (by have := HPg.out; omega)) (by have := HPg.out; omega)
     rw [← HXZ.out] at HOE
     rw [← HXZ.out] at r0 r1 r2 r3 HBE
     clear XE XR0
     go_wp2
     rw [show (((w4.setCell ⟨nw + 1 + 1, 0, none⟩ (.bool true)).setCell ⟨nw + 1 + 1, 1, none⟩ (.slice (some ⟨g2, 0, none⟩) (m + 1) cap2)).setCell ⟨nw + 1 + 1, 2, none⟩ (.int .i64 k0.t)).setCell ⟨nw + 1 + 1, 3, none⟩ (.int .i64 ln) = XZ from HXZ.out.symm]
     exact bodyPost_ret (v := .agg #[.bool true, .slice (some ⟨g2, 0, none⟩) (m + 1) cap2, .int .i64 k0.t, .int .i64 ln]) (by simp [results, Tryz.results54, go_sem, r0, r1, r2, r3]) rfl ⟨by rw [HRF.out, Hln.out]; exact ⟨some ⟨g2, 0, none⟩, cap2, by simp only [HFm1.out], by simp only [HFm1.out]; exact HOE.out⟩, HBE.out⟩
    ·have hone : (c.c == 1) = false := by simp [h1]
     obtain ⟨ra, rc, hrw⟩ := Hrow.out q hq
     have Hmem : Hid (∀ z ∈ bgF g.roads n1 true q, z < n1) := fun z hz => bgF_mem hz
     have Hbn : Hid (chX (miF (chF dl (exF n1 g d y)) (bgF g.roads n1 true q)) = nxI (nxR n1 g d y)) := best_next Hd.out Hdy.out HHq.out
     obtain ⟨row, Hrw⟩ : ∃ k, Hid (bgF g.roads n1 true q = k) := ⟨_, (rfl : bgF g.roads n1 true q = _)⟩
     rw [Hrw.out] at hrw Hmem Hbn
     obtain ⟨rm, Hrm⟩ : ∃ k, Hid (row.length = k) := ⟨_, (rfl : row.length = _)⟩
     rw [Hrm.out] at hrw
     have mr : rm ≤ 8000 := by rw [← Hrm.out, ← Hrw.out]; exact Nat.le_trans (bgF_len _ _ _ _) m1
     have hB4 := HB3.out.bel
     obtain ⟨k1, _, _, k1l⟩ := HRd.out w4 hB4
     have x1 : w4.cell? ⟨nw, 1, none⟩ = some (.slice (some ⟨b, off, none⟩) n1 c1) := by rw [← Hea.out]; exact HB3.out.gr.cell 1 (by simp)
     have x1l := HB3.out.gr.lt
     obtain ⟨q1, _, q1l⟩ := hrw w4 hB4
     have hqI : (q : Int) < (n0 : Int) := by omega
     obtain ⟨wE, HwE⟩ : ∃ X, Hid (X = w4.alloc (.cells #[] 2)) := ⟨_, (rfl : w4.alloc (.cells #[] 2) = _)⟩
     have hbE : Bel w4 wE := by rw [HwE.out]; exact bel_alloc (Bel.refl _) _
     obtain ⟨lo2, Hlo2⟩ : ∃ k, Hid (w4.heap.size = k) := ⟨_, (rfl : w4.heap.size = _)⟩
     have HOE0 : Hid (wE.ownsRow lo2 2 1 (.slice (some ⟨lo2, 0, none⟩) 0 0) 0 (intsV ((row.take 0).map (exF n1 g d y)))) := (by
      rw [HwE.out, ← Hlo2.out]
      exact World.ownsRow_lit w4 #[] 0 (Nat.le_refl _) (Nat.zero_le _) rfl : wE.ownsRow lo2 2 1 (.slice (some ⟨lo2, 0, none⟩) 0 0) 0 (intsV ((row.take 0).map (exF n1 g d y))))
     have HBE : Hid (BsW w nw Pb [.slice a0 n0 c0, .slice a1 n1 c1, .slice a2 n2 c2] [.slice (some ⟨Bt, 0, none⟩) n1 n1, .slice (some ⟨Bc, 0, none⟩) n1 n1] k0.t g (l ++ [y]) (some ⟨g2, 0, none⟩) (m + 1) cap2 wE) := HB3.out.then hbE
     have HlE : Hid (lo2 ≤ wE.heap.size) := (by rw [← Hlo2.out]; exact hbE.out.size : lo2 ≤ wE.heap.size)
     have HPl2 : Hid (Pb < lo2) := (by rw [← Hlo2.out]; exact HB3.out.path.lt : Pb < lo2)
     have Hb2 : Hid (w.heap.size ≤ lo2) := (by rw [← Hlo2.out]; exact hB4.out.size : w.heap.size ≤ lo2)
     have Hg2 : Hid (g2 < lo2) := (by rw [← Hlo2.out]; exact (HB3.out.rows.lt g2 rfl).2 : g2 < lo2)
     have HRw : Hid (∀ w', Bel w w' → w'.ownsRow lo 2 1 (.slice ra rm rc) rm (intsN row)) := fun w' h => (hrw w' h).2.1
     clear hrw hbE
     go_upto_region 15 with fail
     rw [← HwE.out, Hlo2.out]
     clear k1 k1l x1 x1l q1 q1l hB4 HB3
     go_wp2_with fail
     go_loopw [15, 16, 17] (fun v i _ wr => ∃ (k : Nat) (ea : Option Addr) (ec : Nat), k ≤ rm ∧ v = .slice ea k ec ∧ i = .int .i64 k ∧ Hid (wr.ownsRow lo2 2 1 (.slice ea k ec) k (intsV ((row.take k).map (exF n1 g d y)))) ∧ Hid (Frx (fun x => x < lo2) wE wr)) (fun _ i _ _ => rm - (intOf i).toNat)
     case atStart => exact ⟨0, _, 0, Nat.zero_le _, rfl, rfl, HOE0, Frx.refl _ _⟩
     case round =>
      clear HOE0
      obtain ⟨k, ea, ec, hk, rfl, rfl, HOE, HFx⟩ := hrel
      have HBr : Hid (BsW w nw Pb [.slice a0 n0 c0, .slice a1 n1 c1, .slice a2 n2 c2] [.slice (some ⟨Bt, 0, none⟩) n1 n1, .slice (some ⟨Bc, 0, none⟩) n1 n1] k0.t g (l ++ [y]) (some ⟨g2, 0, none⟩) (m + 1) cap2 wr) := (by
       have h := HBE.out
       have hp := HPl2.out
       have hg := HPg.out
       refine ⟨HFx.out.blk h.path hp, own_frx h.rows HFx.out (fun k e => by have : g2 = k := (by simpa [Value.ownBlock] using e); rw [← this]; exact Hg2.out), HFx.out.blk h.gr (by omega), HFx.out.blk h.rt (by omega), HFx.out.blk h.res (by omega), ?_⟩
       exact h.bel.out.trans (HFx.out.below (fun x hx => by have := Hb2.out; omega) h.bel.out.size) : BsW w nw Pb [.slice a0 n0 c0, .slice a1 n1 c1, .slice a2 n2 c2] [.slice (some ⟨Bt, 0, none⟩) n1 n1, .slice (some ⟨Bc, 0, none⟩) n1 n1] k0.t g (l ++ [y]) (some ⟨g2, 0, none⟩) (m + 1) cap2 wr)
      by_cases hlt : k < rm
      ·as_aux_lemma =>
       have hkr : k < row.length := by rw [Hrm.out]; exact hlt
       obtain ⟨ga, cap, ev, _, _⟩ := own_in (HRw.out wr HBr.out.bel) (by omega)
       simp only [Value.slice.injEq] at ev
       obtain ⟨rfl, _, rfl⟩ := ev
       have hzn := Hmem.out row[k] (List.getElem_mem _)
       have Htk : Hid ((row.take (k + 1)).map (exF n1 g d y) = (row.take k).map (exF n1 g d y) ++ [exF n1 g d y row[k]]) := (by rw [List.take_succ_eq_append_getElem hkr, List.map_append]; rfl : (row.take (k + 1)).map (exF n1 g d y) = (row.take k).map (exF n1 g d y) ++ [exF n1 g d y row[k]])
       obtain ⟨z, Hzk⟩ : ∃ x, Hid (row[k] = x) := ⟨_, (rfl : row[k] = _)⟩
       rw [Hzk.out] at hzn Htk
       have r0 : ∀ w', Bel w w' → w'.cell? ⟨ga, k, none⟩ = some (.int .i64 (z : Int)) ∧ ga < w'.heap.size := fun w' h => by
        have hrow := own_bel (HRw.out w (Bel.refl _)) h
        refine ⟨?_, (World.ownsRow.lt hrow ga rfl).2⟩
        rw [hrow.cellAt k (by omega), ← Hzk.out]
        unfold intsN
        rw [List.getElem?_map, List.getElem?_eq_getElem hkr]
        rfl
       have hkI : (k : Int) < (rm : Int) := by omega
       have hzI : (z : Int) < (n1 : Int) := by omega
       have cT : ∀ w', Bel w w' → Calls Tryz.prog 80 #[gphV a0 n0 c0 a1 n1 c1 a2 n2 c2, .int .i64 (y : Int), .int .i64 (z : Int)] w' fun e w'' => e = .returned (.int .i64 (tnB g y z)) ∧ Bel w' w'' := fun w' h => specTurn_any a0 n0 c0 _ n1 c1 a2 n2 c2 g b0 b1 b2 y z w' (HT0.out.1.bel spotE h) (HT0.out.2.1.bel roadE h) (HT0.out.2.2.bel banE h) H0.out H1.out H2.out HP.out hyn hzn
       have htb := tnB_bd g y z
       have Him : Hid (isN n1 g d y z = (decide ((cAt dl z).c = c.c - 1) && (decide (0 ≤ tnB g y z) && (decide (0 ≤ (cAt dl z).t) && decide ((rdAt g y).time + tnB g y z + (cAt dl z).t = c.t))))) := isN_model Hd.out Hdy.out hzn
       have Hyes : Hid (isN n1 g d y z = true → exF n1 g d y z = tnB g y z) := exF_yes
       have Hno : Hid (isN n1 g d y z = false → exF n1 g d y z = -1) := exF_no
       have hzb := Hb.out z hzn
       obtain ⟨tu, Htu⟩ : ∃ x, Hid (tnB g y z = x) := ⟨_, (rfl : tnB g y z = _)⟩
       obtain ⟨zt, Hzt⟩ : ∃ x, Hid ((cAt dl z).t = x) := ⟨_, (rfl : (cAt dl z).t = _)⟩
       obtain ⟨zc, Hzc⟩ : ∃ x, Hid ((cAt dl z).c = x) := ⟨_, (rfl : (cAt dl z).c = _)⟩
       rw [Htu.out, Hzt.out, Hzc.out, Hti.out] at Him
       rw [Htu.out] at htb Hyes cT
       rw [Hzt.out] at hzb
       have hS : ∀ w', Bel wr w' → w'.cell? ⟨nw, 0, none⟩ = some (.slice a0 n0 c0) ∧ w'.cell? ⟨nw, 1, none⟩ = some (.slice a1 n1 c1) ∧ w'.cell? ⟨nw, 2, none⟩ = some (.slice a2 n2 c2) ∧ w'.cell? ⟨ga, k, none⟩ = some (.int .i64 (z : Int)) := fun w' h =>
        ⟨(HBr.out.gr.bel h).cell 0 (by simp), (HBr.out.gr.bel h).cell 1 (by simp), (HBr.out.gr.bel h).cell 2 (by simp), (r0 w' (bel_step HBr.out.bel h)).1⟩
       have HS18 : Hid (∀ w', Bel wr w' → w'.cell? ⟨nw, 0, none⟩ = some (.slice a0 n0 c0) ∧ w'.cell? ⟨nw, 1, none⟩ = some (.slice a1 n1 c1) ∧ w'.cell? ⟨nw, 2, none⟩ = some (.slice a2 n2 c2) ∧ w'.cell? ⟨ga, k, none⟩ = some (.int .i64 (z : Int))) := hS
       have HcT : Hid (∀ w', Bel w w' → Calls Tryz.prog 80 #[gphV a0 n0 c0 a1 n1 c1 a2 n2 c2, .int .i64 (y : Int), .int .i64 (z : Int)] w' fun e w'' => e = .returned (.int .i64 tu) ∧ Bel w' w'') := cT
       have Hr0 : Hid (∀ w', Bel w w' → w'.cell? ⟨ga, k, none⟩ = some (.int .i64 (z : Int)) ∧ ga < w'.heap.size) := r0
       clear hS cT r0
       go_upto_region 18 with fail
       refine wp_region_noPanic ?_
       refine wp_region_held_drew (S := fun w' => w'.cell? ⟨nw, 0, none⟩ = some (.slice a0 n0 c0) ∧ w'.cell? ⟨nw, 1, none⟩ = some (.slice a1 n1 c1) ∧ w'.cell? ⟨nw, 2, none⟩ = some (.slice a2 n2 c2) ∧ w'.cell? ⟨ga, k, none⟩ = some (.int .i64 (z : Int))) (by kernel_rfl) (HS18.out _ (Bel.refl _).drew) (fun hHeld => ?_)
       have hY0 : Bel wr wr.drew := (Bel.refl _).drew
       generalize wr.drew = Y at hHeld hY0 ⊢
       refine tk 0 hHeld ?_; refine tk 1 hHeld ?_; refine tk 2 hHeld ?_; refine tk 3 hHeld ?_; refine tk 4 hHeld ?_; refine tk 5 hHeld ?_
       refine rd1 6 (fun K hK => ?_)
       go_simp
       refine (HcT.out _ (bel_step HBr.out.bel hY0)).mono ?_
       rintro e w6 ⟨rfl, hb6⟩
       have h6 := bel_step hY0 hb6
       go_wp2_with fail
       refine hK.out _ _ (HS18.out _ h6) ?_; clear hK K hHeld; intro hHeld
       try simp only [Act.put, List.setIfInBounds_toArray, List.set_cons_zero, List.set_cons_succ]
       refine tk 7 hHeld ?_
       refine wpAnyH_done (by kernel_rfl) ?_ _
       refine NoPanic.normal ?_
       clear hHeld HS18 HcT
       have HB6 : Hid (BsW w nw Pb [.slice a0 n0 c0, .slice a1 n1 c1, .slice a2 n2 c2] [.slice (some ⟨Bt, 0, none⟩) n1 n1, .slice (some ⟨Bc, 0, none⟩) n1 n1] k0.t g (l ++ [y]) (some ⟨g2, 0, none⟩) (m + 1) cap2 w6) := HBr.out.then h6
       have HO6 : Hid (w6.ownsRow lo2 2 1 (.slice ea k ec) k (intsV ((row.take k).map (exF n1 g d y)))) := own_bel HOE.out h6
       have HF6 : Hid (Frx (fun x => x < lo2) wE w6) := HFx.out.trans (Frx.bel h6)
       have HSn : Hid (∀ w', Bel w6 w' → w'.cell? ⟨nw + 1, 0, none⟩ = some (.slice (some ⟨Bt, 0, none⟩) n1 n1) ∧ w'.cell? ⟨nw + 1, 1, none⟩ = some (.slice (some ⟨Bc, 0, none⟩) n1 n1) ∧ w'.cell? ⟨ga, k, none⟩ = some (.int .i64 (z : Int)) ∧ w'.cell? ⟨Bc, z, none⟩ = some (.int .i64 zc) ∧ w'.cell? ⟨Bt, z, none⟩ = some (.int .i64 zt) ∧ w'.cell? ⟨nw, 1, none⟩ = some (.slice (some ⟨b, off, none⟩) n1 c1) ∧ w'.cell? ⟨b, off + y * 6 + 3, none⟩ = some (.int .i64 ti) ∧ w'.cell? ⟨Bt, y, none⟩ = some (.int .i64 c.t)) := (fun w' h => by
        have hw := bel_step HB6.out.bel h
        obtain ⟨q1, q2, _, _⟩ := HTt.out z hzn w' hw
        obtain ⟨q3, _, _, _⟩ := HTt.out y hyn w' hw
        rw [Hzt.out] at q1
        rw [Hzc.out] at q2
        rw [HHc.out] at q3
        exact ⟨(HB6.out.rt.bel h).cell 0 (by simp), (HB6.out.rt.bel h).cell 1 (by simp), (Hr0.out w' hw).1, q2, q1, by rw [← Hea.out]; exact (HB6.out.gr.bel h).cell 1 (by simp), (HRd.out w' hw).2.1, q3⟩ : ∀ w', Bel w6 w' → w'.cell? ⟨nw + 1, 0, none⟩ = some (.slice (some ⟨Bt, 0, none⟩) n1 n1) ∧ w'.cell? ⟨nw + 1, 1, none⟩ = some (.slice (some ⟨Bc, 0, none⟩) n1 n1) ∧ w'.cell? ⟨ga, k, none⟩ = some (.int .i64 (z : Int)) ∧ w'.cell? ⟨Bc, z, none⟩ = some (.int .i64 zc) ∧ w'.cell? ⟨Bt, z, none⟩ = some (.int .i64 zt) ∧ w'.cell? ⟨nw, 1, none⟩ = some (.slice (some ⟨b, off, none⟩) n1 c1) ∧ w'.cell? ⟨b, off + y * 6 + 3, none⟩ = some (.int .i64 ti) ∧ w'.cell? ⟨Bt, y, none⟩ = some (.int .i64 c.t))
       have hw1 : IntKind.i64.wrap (c.c - 1) = c.c - 1 := by rw [IntKind.wrap_i64]; omega
       have hw2 : IntKind.i64.wrap (ti + tu) = ti + tu := by rw [IntKind.wrap_i64]; omega
       have hw3 : IntKind.i64.wrap (ti + tu + zt) = ti + tu + zt := by rw [IntKind.wrap_i64]; omega
       obtain ⟨vd, Hvd⟩ : ∃ x, Hid (isN n1 g d y z = x) := ⟨_, (rfl : isN n1 g d y z = _)⟩
       rw [Hvd.out] at Him Hyes Hno
       have hbb := hb6
       clear h6 hb6 hY0 HBr HOE HFx
       go_upto_region 19 with fail
       go_cut [143] (fun v wx => v = .bool (!vd) ∧ Hid (Bel w6 wx))
       case first =>
        by_cases g1 : zc = c.c - 1
        ·have d1 : (zc != c.c - 1) = false := by simp [g1]
         have d1e : (zc == c.c - 1) = true := by simp [g1]
         by_cases g3 : tu < 0
         ·as_aux_lemma =>
          have HV : Hid (vd = false) := (by rw [Him.out]; simp; omega : vd = false)
          have d3 : decide (tu < 0) = true := by simp [g3]
          refine wp_region_noPanic ?_
          refine wp_region_held_drew (S := fun w' => w'.cell? ⟨nw + 1, 0, none⟩ = some (.slice (some ⟨Bt, 0, none⟩) n1 n1) ∧ w'.cell? ⟨nw + 1, 1, none⟩ = some (.slice (some ⟨Bc, 0, none⟩) n1 n1) ∧ w'.cell? ⟨ga, k, none⟩ = some (.int .i64 (z : Int)) ∧ w'.cell? ⟨Bc, z, none⟩ = some (.int .i64 zc) ∧ w'.cell? ⟨Bt, z, none⟩ = some (.int .i64 zt) ∧ w'.cell? ⟨nw, 1, none⟩ = some (.slice (some ⟨b, off, none⟩) n1 c1) ∧ w'.cell? ⟨b, off + y * 6 + 3, none⟩ = some (.int .i64 ti) ∧ w'.cell? ⟨Bt, y, none⟩ = some (.int .i64 c.t)) (by kernel_rfl) (HSn.out _ (Bel.refl _).drew) (fun hHeld => ?_)
          have hY0 : Bel w6 w6.drew := (Bel.refl _).drew
          clear HSn
          generalize w6.drew = Y at hHeld hY0 ⊢
          refine tk 0 hHeld ?_; refine tk 1 hHeld ?_; refine tk 2 hHeld ?_; refine tk 3 hHeld ?_; refine tk 4 hHeld ?_; refine tk 5 hHeld ?_; refine tk 6 hHeld ?_; refine tk 7 hHeld ?_; refine tk 8 hHeld ?_; refine tk 9 hHeld ?_; refine tk 10 hHeld ?_; refine tk 11 hHeld ?_; refine tk 12 hHeld ?_; refine tk 13 hHeld ?_; refine tk 14 hHeld ?_; refine tk 15 hHeld ?_
          refine sk 16 hHeld ?_; refine sk 17 hHeld ?_; refine sk 18 hHeld ?_; refine sk 19 hHeld ?_; refine sk 20 hHeld ?_; refine sk 21 hHeld ?_; refine sk 22 hHeld ?_; refine sk 23 hHeld ?_; refine sk 24 hHeld ?_
          refine tk 25 hHeld ?_; refine tk 26 hHeld ?_
          refine sk 27 hHeld ?_; refine sk 28 hHeld ?_; refine sk 29 hHeld ?_; refine sk 30 hHeld ?_; refine sk 31 hHeld ?_; refine sk 32 hHeld ?_; refine sk 33 hHeld ?_; refine sk 34 hHeld ?_; refine sk 35 hHeld ?_; refine sk 36 hHeld ?_; refine sk 37 hHeld ?_; refine sk 38 hHeld ?_; refine sk 39 hHeld ?_; refine sk 40 hHeld ?_; refine sk 41 hHeld ?_; refine sk 42 hHeld ?_; refine sk 43 hHeld ?_; refine sk 44 hHeld ?_; refine sk 45 hHeld ?_; refine sk 46 hHeld ?_; refine sk 47 hHeld ?_; refine sk 48 hHeld ?_; refine sk 49 hHeld ?_
          refine tk 50 hHeld ?_
          refine wpAnyH_done (by kernel_rfl) ?_ _
          refine NoPanic.normal ?_
          go_wp2_with fail
          go_meet
          case rel => exact ⟨by rw [HV.out]; rfl, hY0⟩
         ·have d3 : decide (tu < 0) = false := by simp [g3]
          by_cases g4 : zt < 0
          ·as_aux_lemma =>
           have HV : Hid (vd = false) := (by rw [Him.out]; simp; omega : vd = false)
           have d4 : decide (zt < 0) = true := by simp [g4]
           refine wp_region_noPanic ?_
           refine wp_region_held_drew (S := fun w' => w'.cell? ⟨nw + 1, 0, none⟩ = some (.slice (some ⟨Bt, 0, none⟩) n1 n1) ∧ w'.cell? ⟨nw + 1, 1, none⟩ = some (.slice (some ⟨Bc, 0, none⟩) n1 n1) ∧ w'.cell? ⟨ga, k, none⟩ = some (.int .i64 (z : Int)) ∧ w'.cell? ⟨Bc, z, none⟩ = some (.int .i64 zc) ∧ w'.cell? ⟨Bt, z, none⟩ = some (.int .i64 zt) ∧ w'.cell? ⟨nw, 1, none⟩ = some (.slice (some ⟨b, off, none⟩) n1 c1) ∧ w'.cell? ⟨b, off + y * 6 + 3, none⟩ = some (.int .i64 ti) ∧ w'.cell? ⟨Bt, y, none⟩ = some (.int .i64 c.t)) (by kernel_rfl) (HSn.out _ (Bel.refl _).drew) (fun hHeld => ?_)
           have hY0 : Bel w6 w6.drew := (Bel.refl _).drew
           clear HSn
           generalize w6.drew = Y at hHeld hY0 ⊢
           refine tk 0 hHeld ?_; refine tk 1 hHeld ?_; refine tk 2 hHeld ?_; refine tk 3 hHeld ?_; refine tk 4 hHeld ?_; refine tk 5 hHeld ?_; refine tk 6 hHeld ?_; refine tk 7 hHeld ?_; refine tk 8 hHeld ?_; refine tk 9 hHeld ?_; refine tk 10 hHeld ?_; refine tk 11 hHeld ?_; refine tk 12 hHeld ?_; refine tk 13 hHeld ?_; refine tk 14 hHeld ?_; refine tk 15 hHeld ?_; refine tk 16 hHeld ?_; refine tk 17 hHeld ?_; refine tk 18 hHeld ?_; refine tk 19 hHeld ?_; refine tk 20 hHeld ?_; refine tk 21 hHeld ?_; refine tk 22 hHeld ?_; refine tk 23 hHeld ?_; refine tk 24 hHeld ?_; refine tk 25 hHeld ?_; refine tk 26 hHeld ?_
           refine sk 27 hHeld ?_; refine sk 28 hHeld ?_; refine sk 29 hHeld ?_; refine sk 30 hHeld ?_; refine sk 31 hHeld ?_; refine sk 32 hHeld ?_; refine sk 33 hHeld ?_; refine sk 34 hHeld ?_; refine sk 35 hHeld ?_; refine sk 36 hHeld ?_; refine sk 37 hHeld ?_; refine sk 38 hHeld ?_; refine sk 39 hHeld ?_; refine sk 40 hHeld ?_; refine sk 41 hHeld ?_; refine sk 42 hHeld ?_; refine sk 43 hHeld ?_; refine sk 44 hHeld ?_; refine sk 45 hHeld ?_; refine sk 46 hHeld ?_; refine sk 47 hHeld ?_; refine sk 48 hHeld ?_; refine sk 49 hHeld ?_
           refine tk 50 hHeld ?_
           refine wpAnyH_done (by kernel_rfl) ?_ _
           refine NoPanic.normal ?_
           go_wp2_with fail
           go_meet
           case rel => exact ⟨by rw [HV.out]; rfl, hY0⟩
          ·as_aux_lemma =>
           have d4 : decide (zt < 0) = false := by simp [g4]
           have HV : Hid (vd = decide (ti + tu + zt = c.t)) := (by rw [Him.out]; simp [g1, Int.not_lt.1 g3, Int.not_lt.1 g4] : vd = decide (ti + tu + zt = c.t))
           obtain ⟨ee, Hee⟩ : ∃ x, decide (ti + tu + zt = c.t) = x := ⟨_, rfl⟩
           rw [Hee] at HV
           have d5 : (ti + tu + zt != c.t) = !ee := by
            rw [← Hee]
            by_cases h : ti + tu + zt = c.t <;> simp [h]
           have d5e : (ti + tu + zt == c.t) = ee := by
            rw [← Hee]
            by_cases h : ti + tu + zt = c.t <;> simp [h]
           clear Hee g1
           refine wp_region_noPanic ?_
           refine wp_region_held_drew (S := fun w' => w'.cell? ⟨nw + 1, 0, none⟩ = some (.slice (some ⟨Bt, 0, none⟩) n1 n1) ∧ w'.cell? ⟨nw + 1, 1, none⟩ = some (.slice (some ⟨Bc, 0, none⟩) n1 n1) ∧ w'.cell? ⟨ga, k, none⟩ = some (.int .i64 (z : Int)) ∧ w'.cell? ⟨Bc, z, none⟩ = some (.int .i64 zc) ∧ w'.cell? ⟨Bt, z, none⟩ = some (.int .i64 zt) ∧ w'.cell? ⟨nw, 1, none⟩ = some (.slice (some ⟨b, off, none⟩) n1 c1) ∧ w'.cell? ⟨b, off + y * 6 + 3, none⟩ = some (.int .i64 ti) ∧ w'.cell? ⟨Bt, y, none⟩ = some (.int .i64 c.t)) (by kernel_rfl) (HSn.out _ (Bel.refl _).drew) (fun hHeld => ?_)
           have hY0 : Bel w6 w6.drew := (Bel.refl _).drew
           clear HSn
           generalize w6.drew = Y at hHeld hY0 ⊢
           refine tk 0 hHeld ?_; refine tk 1 hHeld ?_; refine tk 2 hHeld ?_; refine tk 3 hHeld ?_; refine tk 4 hHeld ?_; refine tk 5 hHeld ?_; refine tk 6 hHeld ?_; refine tk 7 hHeld ?_; refine tk 8 hHeld ?_; refine tk 9 hHeld ?_; refine tk 10 hHeld ?_; refine tk 11 hHeld ?_; refine tk 12 hHeld ?_; refine tk 13 hHeld ?_; refine tk 14 hHeld ?_; refine tk 15 hHeld ?_; refine tk 16 hHeld ?_; refine tk 17 hHeld ?_; refine tk 18 hHeld ?_; refine tk 19 hHeld ?_; refine tk 20 hHeld ?_; refine tk 21 hHeld ?_; refine tk 22 hHeld ?_; refine tk 23 hHeld ?_; refine tk 24 hHeld ?_; refine tk 25 hHeld ?_; refine tk 26 hHeld ?_; refine tk 27 hHeld ?_; refine tk 28 hHeld ?_; refine tk 29 hHeld ?_; refine tk 30 hHeld ?_; refine tk 31 hHeld ?_; refine tk 32 hHeld ?_; refine tk 33 hHeld ?_; refine tk 34 hHeld ?_; refine tk 35 hHeld ?_; refine tk 36 hHeld ?_; refine tk 37 hHeld ?_; refine tk 38 hHeld ?_; refine tk 39 hHeld ?_; refine tk 40 hHeld ?_; refine tk 41 hHeld ?_; refine tk 42 hHeld ?_; refine tk 43 hHeld ?_; refine tk 44 hHeld ?_; refine tk 45 hHeld ?_; refine tk 46 hHeld ?_; refine tk 47 hHeld ?_; refine tk 48 hHeld ?_; refine tk 49 hHeld ?_; refine tk 50 hHeld ?_
           refine wpAnyH_done (by kernel_rfl) ?_ _
           refine NoPanic.normal ?_
           go_wp2_with fail
           go_meet
           case rel => exact ⟨by rw [HV.out], hY0⟩
        ·as_aux_lemma =>
         have d1 : (zc != c.c - 1) = true := by simp [g1]
         have d1e : (zc == c.c - 1) = false := by simp [g1]
         have HV : Hid (vd = false) := (by rw [Him.out]; simp [g1] : vd = false)
         refine wp_region_noPanic ?_
         refine wp_region_held_drew (S := fun w' => w'.cell? ⟨nw + 1, 0, none⟩ = some (.slice (some ⟨Bt, 0, none⟩) n1 n1) ∧ w'.cell? ⟨nw + 1, 1, none⟩ = some (.slice (some ⟨Bc, 0, none⟩) n1 n1) ∧ w'.cell? ⟨ga, k, none⟩ = some (.int .i64 (z : Int)) ∧ w'.cell? ⟨Bc, z, none⟩ = some (.int .i64 zc) ∧ w'.cell? ⟨Bt, z, none⟩ = some (.int .i64 zt) ∧ w'.cell? ⟨nw, 1, none⟩ = some (.slice (some ⟨b, off, none⟩) n1 c1) ∧ w'.cell? ⟨b, off + y * 6 + 3, none⟩ = some (.int .i64 ti) ∧ w'.cell? ⟨Bt, y, none⟩ = some (.int .i64 c.t)) (by kernel_rfl) (HSn.out _ (Bel.refl _).drew) (fun hHeld => ?_)
         have hY0 : Bel w6 w6.drew := (Bel.refl _).drew
         clear HSn
         generalize w6.drew = Y at hHeld hY0 ⊢
         refine tk 0 hHeld ?_; refine tk 1 hHeld ?_; refine tk 2 hHeld ?_; refine tk 3 hHeld ?_; refine tk 4 hHeld ?_; refine tk 5 hHeld ?_; refine tk 6 hHeld ?_; refine tk 7 hHeld ?_; refine tk 8 hHeld ?_; refine tk 9 hHeld ?_; refine tk 10 hHeld ?_; refine tk 11 hHeld ?_
         refine sk 12 hHeld ?_; refine sk 13 hHeld ?_
         refine tk 14 hHeld ?_; refine tk 15 hHeld ?_
         refine sk 16 hHeld ?_; refine sk 17 hHeld ?_; refine sk 18 hHeld ?_; refine sk 19 hHeld ?_; refine sk 20 hHeld ?_; refine sk 21 hHeld ?_; refine sk 22 hHeld ?_; refine sk 23 hHeld ?_; refine sk 24 hHeld ?_
         refine tk 25 hHeld ?_; refine tk 26 hHeld ?_
         refine sk 27 hHeld ?_; refine sk 28 hHeld ?_; refine sk 29 hHeld ?_; refine sk 30 hHeld ?_; refine sk 31 hHeld ?_; refine sk 32 hHeld ?_; refine sk 33 hHeld ?_; refine sk 34 hHeld ?_; refine sk 35 hHeld ?_; refine sk 36 hHeld ?_; refine sk 37 hHeld ?_; refine sk 38 hHeld ?_; refine sk 39 hHeld ?_; refine sk 40 hHeld ?_; refine sk 41 hHeld ?_; refine sk 42 hHeld ?_; refine sk 43 hHeld ?_; refine sk 44 hHeld ?_; refine sk 45 hHeld ?_; refine sk 46 hHeld ?_; refine sk 47 hHeld ?_; refine sk 48 hHeld ?_; refine sk 49 hHeld ?_
         refine tk 50 hHeld ?_
         refine wpAnyH_done (by kernel_rfl) ?_ _
         refine NoPanic.normal ?_
         go_wp2_with fail
         go_meet
         case rel => exact ⟨by rw [HV.out]; rfl, hY0⟩
       case rest =>
        obtain ⟨rfl, HBc⟩ := hcut
        obtain ⟨w7, rfl⟩ : ∃ V, V = wc := ⟨_, rfl⟩
        obtain ⟨ev, Hev⟩ : ∃ x, Hid (exF n1 g d y z = x) := ⟨_, (rfl : exF n1 g d y z = _)⟩
        rw [Hev.out] at Htk Hyes Hno
        have HO7 : Hid (w7.ownsRow lo2 2 1 (.slice ea k ec) k (intsV ((row.take k).map (exF n1 g d y)))) := own_bel HO6.out HBc.out
        obtain ⟨xs, Hxs⟩ : ∃ q, Hid (intsV ((row.take k).map (exF n1 g d y)) = q) := ⟨_, (rfl : intsV ((row.take k).map (exF n1 g d y)) = _)⟩
        rw [Hxs.out] at HO7
        have HF7 : Hid (Frx (fun x => x < lo2) wE w7) := HF6.out.trans (Frx.bel HBc.out)
        have hl7 : lo2 ≤ w7.heap.size := Nat.le_trans HlE.out HF7.out.size
        clear HSn HO6 HF6 HB6 Him hw1 hw2 hw3 Htu Hzt Hzc
        have hownA : (w7.alloc (.cells #[.int .i64 ev] 2)).ownsRow lo2 2 1 (.slice ea k ec) k (xs) := World.ownsRow.alloc HO7.out _
        have hnews2 : Hid (∀ j u, [Value.int .i64 ev][j]? = some u → (w7.alloc (.cells #[.int .i64 ev] 2)).cell? (Addr.add ⟨w7.heap.size, 0, none⟩ j) = some u) := World.news_of_block (cs := #[.int .i64 ev]) (heap_alloc_new w7 _)
        have HiV : Hid (intsV ((row.take (k + 1)).map (exF n1 g d y)) = xs ++ [.int .i64 ev]) := (by rw [Htk.out, ← Hxs.out]; simp [intsV] : intsV ((row.take (k + 1)).map (exF n1 g d y)) = xs ++ [.int .i64 ev])
        have Hend : Hid (∀ (g3 cap3 : Nat) (w8 : World), w8.ownsRow lo2 2 1 (.slice (some ⟨g3, 0, none⟩) (k + 1) cap3) (k + 1) (xs ++ [.int .i64 ev]) → (w7.alloc (.cells #[.int .i64 ev] 2)).grownBy w8 (Value.slice ea k ec).ownBlock → w8.ownsRow lo2 2 1 (.slice (some ⟨g3, 0, none⟩) (k + 1) cap3) (k + 1) (intsV ((row.take (k + 1)).map (exF n1 g d y))) ∧ Frx (fun x => x < lo2) wE w8) := (fun g3 cap3 w8 ho hg => ⟨by rw [HiV.out]; exact ho, HF7.out.trans ((Frx.bel (bel_alloc (Bel.refl w7) (.cells #[.int .i64 ev] 2))).trans (Frx.grow hg (fun x e hx => by have := (hownA.lt x e).1; omega)))⟩ : ∀ (g3 cap3 : Nat) (w8 : World), w8.ownsRow lo2 2 1 (.slice (some ⟨g3, 0, none⟩) (k + 1) cap3) (k + 1) (xs ++ [.int .i64 ev]) → (w7.alloc (.cells #[.int .i64 ev] 2)).grownBy w8 (Value.slice ea k ec).ownBlock → w8.ownsRow lo2 2 1 (.slice (some ⟨g3, 0, none⟩) (k + 1) cap3) (k + 1) (intsV ((row.take (k + 1)).map (exF n1 g d y))) ∧ Frx (fun x => x < lo2) wE w8)
        have hk8 : k ≤ 8000 := by omega
        cases vd
        ·as_aux_lemma =>
         obtain rfl : ev = -1 := Hno.out rfl
         simp only [Bool.not_false]
         go_wp2_with (first
          | (at_builtin; refine wpList_append_lies _ rfl _ _ 27 rfl lo2 2 i0 (.int .i64 0) 1 8 Tryz.underlying27 hi0 hz0 hz1 hz2 rfl (by decide) _ _ _ rfl hownA ⟨w7.heap.size, 0, none⟩ 1 1 [.int .i64 (-1)] rfl rfl hnews2.out (by simp [Value.oneCell']) (by decide) (by unfold maxLen; omega) (by omega) (by simp; omega) (w7.heap.size + 1) (by simp) ?_)
          | go_in)
         intro g3 cap3 w8 hown3 hgrow hat _
         obtain ⟨z1, z2⟩ := Hend.out g3 cap3 w8 hown3 hgrow
         have HZ1 : Hid (w8.ownsRow lo2 2 1 (.slice (some ⟨g3, 0, none⟩) (k + 1) cap3) (k + 1) (intsV ((row.take (k + 1)).map (exF n1 g d y)))) := z1
         have HZ2 : Hid (Frx (fun x => x < lo2) wE w8) := z2
         clear hown3 hgrow hat z1 z2 hownA
         go_wp2
         go_roundw
         case rel => exact ⟨k + 1, _, cap3, by omega, rfl, by go_num, HZ1, HZ2⟩
         case measure => simp [intOf]; omega
        ·as_aux_lemma =>
         obtain rfl : ev = tu := Hyes.out rfl
         simp only [Bool.not_true]
         go_wp2_with (first
          | (at_builtin; refine wpList_append_lies _ rfl _ _ 27 rfl lo2 2 i0 (.int .i64 0) 1 8 Tryz.underlying27 hi0 hz0 hz1 hz2 rfl (by decide) _ _ _ rfl hownA ⟨w7.heap.size, 0, none⟩ 1 1 [.int .i64 ev] rfl rfl hnews2.out (by simp [Value.oneCell']) (by decide) (by unfold maxLen; omega) (by omega) (by simp; omega) (w7.heap.size + 1) (by simp) ?_)
          | go_in)
         intro g3 cap3 w8 hown3 hgrow hat _
         obtain ⟨z1, z2⟩ := Hend.out g3 cap3 w8 hown3 hgrow
         have HZ1 : Hid (w8.ownsRow lo2 2 1 (.slice (some ⟨g3, 0, none⟩) (k + 1) cap3) (k + 1) (intsV ((row.take (k + 1)).map (exF n1 g d y)))) := z1
         have HZ2 : Hid (Frx (fun x => x < lo2) wE w8) := z2
         clear hown3 hgrow hat z1 z2 hownA
         go_wp2
         go_roundw
         case rel => exact ⟨k + 1, _, cap3, by omega, rfl, by go_num, HZ1, HZ2⟩
         case measure => simp [intOf]; omega
      ·as_aux_lemma =>
       have e : row.take k = row := List.take_of_length_le (by rw [Hrm.out]; omega)
       rw [e] at HOE
       obtain rfl : k = rm := by omega
       have hge : ¬ (k : Int) < (k : Int) := by omega
       have t0' : wr.cell? ⟨nw + 1, 0, none⟩ = some (.slice (some ⟨Bt, 0, none⟩) n1 n1) := HBr.out.rt.cell 0 (by simp)
       have t1' : wr.cell? ⟨nw + 1, 1, none⟩ = some (.slice (some ⟨Bc, 0, none⟩) n1 n1) := HBr.out.rt.cell 1 (by simp)
       have tl' := HBr.out.rt.lt
       have cC := l10Choose_any Bt Bc n1 dl row (exF n1 g d y) ra k rc ea ec lo lo2 wr (HTm.out.bel HBr.out.bel) (HCt.out.bel HBr.out.bel) Hn.out Hmem.out (HRw.out wr HBr.out.bel) Hrm.out HOE.out Hb.out (exF_bd n1 g d y) mr
       rw [Hbn.out] at cC
       obtain ⟨yy, cc2, e1, e2, _, e3, _⟩ := HL.out.more Hdy.out (show 2 ≤ c.c by omega)
       have hc2 : c.c = cc2.c + 1 := by rw [e3]; rfl
       rw [e1] at cC HNx
       have HN2 : Hid (d yy = some cc2 ∧ (l ++ [y]) ++ chR n1 g d cc2.c.toNat yy = F) := (by
        obtain ⟨c3, h3, h4⟩ := HNx.out
        rw [e2] at h3
        injection h3 with h3
        subst h3
        exact ⟨e2, h4⟩ : d yy = some cc2 ∧ (l ++ [y]) ++ chR n1 g d cc2.c.toNat yy = F)
       have hwm : IntKind.i64.wrap (c.c - 1) = cc2.c := by rw [IntKind.wrap_i64]; omega
       have hcc : 0 ≤ cc2.c ∧ cc2.c < c.c := by omega
       clear e1 e2 e3 hc2 HOE
       go_wp2_with fail
       refine cC.mono ?_
       rintro e w9 ⟨rfl, hb9⟩
       have HB9 : Hid (BsW w nw Pb [.slice a0 n0 c0, .slice a1 n1 c1, .slice a2 n2 c2] [.slice (some ⟨Bt, 0, none⟩) n1 n1, .slice (some ⟨Bc, 0, none⟩) n1 n1] k0.t g (l ++ [y]) (some ⟨g2, 0, none⟩) (m + 1) cap2 w9) := HBr.out.then hb9
       clear cC t0' t1' tl' hb9 HBr
       simp only [nxI]
       go_wp2
       go_roundw
       case rel => exact ⟨l ++ [y], yy, cc2, _, m + 1, cap2, rfl, by first | rfl | (rw [hwm]) | (simp [hwm]), HN2, HLl2, HB9⟩
       case measure => simp [intOf]; omega
end Go.Proofs.YtakedciemnkfhaaGreatDoor
