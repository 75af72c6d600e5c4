/-
  BestPath in the model: contract.
-/
import Derived.Test.YtakedciemnkfhaaGreatDoorBstS
import Derived.Test.YtakedciemnkfhaaGreatDoorFrdS
namespace Go.Proofs.YtakedciemnkfhaaGreatDoor
open Go.RowKit Go.Maps

theorem MJ.bds {n : Nat} {g : GraphD} {st : Int} {D : List Nat} {s : Mst} (h : MJ (mkS n true) g st D s) (hn : n ≤ 8000) : ∀ x, x < n → -1 ≤ (cAt s.dl x).t ∧ (cAt s.dl x).t ≤ 100000000000 := fun x hx => by
 by_cases h0 : 0 ≤ (cAt s.dl x).t
 ·have h1 := h.cb x _ (mO_some.2 ⟨hx, rfl, h0⟩)
  have h2 : D.length ≤ n := h.dl'
  omega
 ·have := h.neg x hx (by omega)
  omega

set_option maxRecDepth 100000 in
set_option maxHeartbeats 4000000 in
theorem specBestPath_of (hBk : BakC) (v : Value) (g : GraphD) (bs : List Nat) (si ti : Int) (w : World) (hV : GphV w v g bs) (hQ : GphQ g) :
  Calls Tryz.prog 29 #[v, .int .i64 si, .int .i64 ti] w fun e w' => PthO w.heap.size w' (bpQ g si ti) e ∧ Bel w w' := by
 have HBk : Hid BakC := hBk
 have hV' := hV
 obtain ⟨a0, c0, a1, c1, a2, c2, b0, b1, b2, _, rfl, t0, t1, t2⟩ := hV
 obtain ⟨n0, H0⟩ : ∃ n, Hid (g.places.length = n) := ⟨_, (rfl : g.places.length = _)⟩
 obtain ⟨n1, H1⟩ : ∃ n, Hid (g.roads.length = n) := ⟨_, (rfl : g.roads.length = _)⟩
 obtain ⟨n2, H2⟩ : ∃ n, Hid (g.bans.length = n) := ⟨_, (rfl : g.bans.length = _)⟩
 rw [H0.out, H1.out, H2.out] at hV' ⊢
 obtain ⟨W, HW⟩ : ∃ W, Hid (W = (w.alloc (.cells #[.slice a0 n0 c0, .slice a1 n1 c1, .slice a2 n2 c2] 36)).alloc (.cells #[.bool false, .slice none 0 0, .int .i64 0, .int .i64 0] 30)) := ⟨_, (rfl : (w.alloc (.cells #[.slice a0 n0 c0, .slice a1 n1 c1, .slice a2 n2 c2] 36)).alloc (.cells #[.bool false, .slice none 0 0, .int .i64 0, .int .i64 0] 30) = _)⟩
 have hBW : Bel w W := by rw [HW.out]; exact bel_alloc (bel_alloc (Bel.refl _) _) _
 have XG : Blk W w.heap.size [.slice a0 n0 c0, .slice a1 n1 c1, .slice a2 n2 c2] := by rw [HW.out]; exact (Blk.new w [.slice a0 n0 c0, .slice a1 n1 c1, .slice a2 n2 c2] _).bel (bel_alloc (Bel.refl _) _)
 have XR : Blk W (w.heap.size + 1) [.bool false, .slice none 0 0, .int .i64 0, .int .i64 0] := by rw [HW.out]; exact Blk.new1 w _ [.bool false, .slice none 0 0, .int .i64 0, .int .i64 0] _
 obtain ⟨nw, Hnw⟩ : ∃ n, Hid (w.heap.size = n) := ⟨_, (rfl : w.heap.size = _)⟩
 rw [Hnw.out] at XG XR
 have hle : w.heap.size ≤ nw + 1 := by rw [Hnw.out]; omega
 obtain ⟨R, HR⟩ : ∃ R, Hid (bpQ g si ti = R) := ⟨_, (rfl : bpQ g si ti = _)⟩
 rw [HR.out]
 have HXR : Hid (Blk W (nw + 1) [.bool false, .slice none 0 0, .int .i64 0, .int .i64 0]) := XR
 have HXG : Hid (Blk W nw [.slice a0 n0 c0, .slice a1 n1 c1, .slice a2 n2 c2]) := XG
 have hGr : ∀ r, bP (graphP g) = r → Calls Tryz.prog 25 #[gphV a0 n0 c0 a1 n1 c1 a2 n2 c2] W fun e w2 => e = .returned (.bool r) ∧ Bel W w2 := fun r hr => by
  rw [← hr]; exact specGraphOk_any _ g bs _ (hV'.bel hBW) hQ
 have z0 : W.cell? ⟨nw, 0, none⟩ = some (.slice a0 n0 c0) := XG.cell 0 (by simp)
 have z1 : W.cell? ⟨nw, 1, none⟩ = some (.slice a1 n1 c1) := XG.cell 1 (by simp)
 have z2 : W.cell? ⟨nw, 2, none⟩ = some (.slice a2 n2 c2) := XG.cell 2 (by simp)
 have zl := XG.lt
 clear XG XR
 by_cases hP : graphP g
 rotate_left
 ·have HF : Hid (R = ⟨false, [], 0, 0⟩) := (by rw [← HR.out]; exact bpQ_no (fun h => hP h.1) : R = ⟨false, [], 0, 0⟩)
  have hG := hGr false (bP_false hP)
  clear hGr
  go_enter Tryz.func29, Tryz.ntmps29
  go_upto_region 1 with fail
  rw [← HW.out, Hnw.out]
  go_wp2_with fail
  refine hG.mono ?_
  rintro e w1 ⟨rfl, hb1⟩
  clear z0 z1 z2 zl hG
  have XR0 : Blk w1 (nw + 1) [.bool false, .slice none 0 0, .int .i64 0, .int .i64 0] := HXR.out.bel (hb1)
  have u0 : w1.cell? ⟨nw + 1, 0, none⟩ = some (.bool false) := XR0.cell 0 (by simp)
  have u1 : w1.cell? ⟨nw + 1, 1, none⟩ = some (.slice none 0 0) := XR0.cell 1 (by simp)
  have u2 : w1.cell? ⟨nw + 1, 2, none⟩ = some (.int .i64 0) := XR0.cell 2 (by simp)
  have u3 : w1.cell? ⟨nw + 1, 3, none⟩ = some (.int .i64 0) := XR0.cell 3 (by simp)
  have f0 := XR0.free 0
  have f1 := XR0.free 1
  have f2 := XR0.free 2
  have f3 := XR0.free 3
  have ul := XR0.lt
  have XE := blk_st4 XR0 (.bool false) (.slice none 0 0) (.int .i64 0) (.int .i64 0)
  have r0 := XE.cell 0 (by simp)
  have r1 := XE.cell 1 (by simp)
  have r2 := XE.cell 2 (by simp)
  have r3 := XE.cell 3 (by simp)
  simp only [List.getElem_cons_zero, List.getElem_cons_succ] at r0 r1 r2 r3
  have HBE : Hid (Bel w (st4 w1 (nw + 1) (.bool false) (.slice none 0 0) (.int .i64 0) (.int .i64 0))) := bel_st4 (bel_step hBW hb1) hle
  obtain ⟨XZ, HXZ⟩ : ∃ T, Hid (T = st4 w1 (nw + 1) (.bool false) (.slice none 0 0) (.int .i64 0) (.int .i64 0)) := ⟨_, (rfl : st4 w1 (nw + 1) (.bool false) (.slice none 0 0) (.int .i64 0) (.int .i64 0) = _)⟩
  rw [← HXZ.out] at r0 r1 r2 r3 HBE
  clear XE XR0
  go_wp2
  rw [show (((w1.setCell ⟨nw + 1, 0, none⟩ (.bool false)).setCell ⟨nw + 1, 1, none⟩ (.slice none 0 0)).setCell ⟨nw + 1, 2, none⟩ (.int .i64 0)).setCell ⟨nw + 1, 3, none⟩ (.int .i64 0) = XZ from HXZ.out.symm]
  exact bodyPost_ret (v := .agg #[.bool false, .slice none 0 0, .int .i64 0, .int .i64 0]) (by simp [results, Tryz.results29, go_sem, r0, r1, r2, r3]) rfl ⟨by rw [HF.out]; exact PthO.zero _ _, HBE.out⟩
 have HP : Hid (graphP g) := hP
 have hG := hGr true (bP_true hP)
 have m1 : n1 ≤ 8000 := by rw [← H1.out]; exact hP.1.2.1
 have HT : Hid (SpotL w a0 g.places b0 ∧ RoadL w a1 g.roads b1 ∧ BanL w a2 g.bans b2) := ⟨t0, t1, t2⟩
 clear hGr hP t0 t1 t2 hV'
 go_enter Tryz.func29, Tryz.ntmps29
 go_upto_region 1 with fail
 rw [← HW.out, Hnw.out]
 go_wp2_with fail
 refine hG.mono ?_
 rintro e w1 ⟨rfl, hb1⟩
 have XG1 := HXG.out.bel (hb1)
 have y0 : w1.cell? ⟨nw, 0, none⟩ = some (.slice a0 n0 c0) := XG1.cell 0 (by simp)
 have y1 : w1.cell? ⟨nw, 1, none⟩ = some (.slice a1 n1 c1) := XG1.cell 1 (by simp)
 have y2 : w1.cell? ⟨nw, 2, none⟩ = some (.slice a2 n2 c2) := XG1.cell 2 (by simp)
 have yl := XG1.lt
 clear z0 z1 z2 zl hG XG1
 rcases Bool.eq_false_or_eq_true (inN n0 si) with hsx | hsx
 rotate_left
 ·have HF : Hid (R = ⟨false, [], 0, 0⟩) := (by rw [← HR.out]; exact bpQ_no (fun h => by have := h.2.1; rw [H0.out, hsx] at this; cases this) : R = ⟨false, [], 0, 0⟩)
  go_wp2_with fail
  refine (l10SpotIs_r si _ _ _ _ _ _ _ _ _ false _ hsx).mono ?_
  rintro e w2 ⟨rfl, hb2⟩
  clear y0 y1 y2 yl
  have XR0 : Blk w2 (nw + 1) [.bool false, .slice none 0 0, .int .i64 0, .int .i64 0] := HXR.out.bel (bel_step hb1 hb2)
  have u0 : w2.cell? ⟨nw + 1, 0, none⟩ = some (.bool false) := XR0.cell 0 (by simp)
  have u1 : w2.cell? ⟨nw + 1, 1, none⟩ = some (.slice none 0 0) := XR0.cell 1 (by simp)
  have u2 : w2.cell? ⟨nw + 1, 2, none⟩ = some (.int .i64 0) := XR0.cell 2 (by simp)
  have u3 : w2.cell? ⟨nw + 1, 3, none⟩ = some (.int .i64 0) := XR0.cell 3 (by simp)
  have f0 := XR0.free 0
  have f1 := XR0.free 1
  have f2 := XR0.free 2
  have f3 := XR0.free 3
  have ul := XR0.lt
  have XE := blk_st4 XR0 (.bool false) (.slice none 0 0) (.int .i64 0) (.int .i64 0)
  have r0 := XE.cell 0 (by simp)
  have r1 := XE.cell 1 (by simp)
  have r2 := XE.cell 2 (by simp)
  have r3 := XE.cell 3 (by simp)
  simp only [List.getElem_cons_zero, List.getElem_cons_succ] at r0 r1 r2 r3
  have HBE : Hid (Bel w (st4 w2 (nw + 1) (.bool false) (.slice none 0 0) (.int .i64 0) (.int .i64 0))) := bel_st4 (bel_step hBW (bel_step hb1 hb2)) hle
  obtain ⟨XZ, HXZ⟩ : ∃ T, Hid (T = st4 w2 (nw + 1) (.bool false) (.slice none 0 0) (.int .i64 0) (.int .i64 0)) := ⟨_, (rfl : st4 w2 (nw + 1) (.bool false) (.slice none 0 0) (.int .i64 0) (.int .i64 0) = _)⟩
  rw [← HXZ.out] at r0 r1 r2 r3 HBE
  clear XE XR0
  go_wp2
  rw [show (((w2.setCell ⟨nw + 1, 0, none⟩ (.bool false)).setCell ⟨nw + 1, 1, none⟩ (.slice none 0 0)).setCell ⟨nw + 1, 2, none⟩ (.int .i64 0)).setCell ⟨nw + 1, 3, none⟩ (.int .i64 0) = XZ from HXZ.out.symm]
  exact bodyPost_ret (v := .agg #[.bool false, .slice none 0 0, .int .i64 0, .int .i64 0]) (by simp [results, Tryz.results29, go_sem, r0, r1, r2, r3]) rfl ⟨by rw [HF.out]; exact PthO.zero _ _, HBE.out⟩
 go_wp2_with fail
 refine (l10SpotIs_r si _ _ _ _ _ _ _ _ _ true _ hsx).mono ?_
 rintro e w2 ⟨rfl, hb2⟩
 clear y0 y1 y2 yl
 have hb12 := bel_step hb1 hb2
 have XG2 := HXG.out.bel (hb12)
 have y0 : w2.cell? ⟨nw, 0, none⟩ = some (.slice a0 n0 c0) := XG2.cell 0 (by simp)
 have y1 : w2.cell? ⟨nw, 1, none⟩ = some (.slice a1 n1 c1) := XG2.cell 1 (by simp)
 have y2 : w2.cell? ⟨nw, 2, none⟩ = some (.slice a2 n2 c2) := XG2.cell 2 (by simp)
 have yl := XG2.lt
 clear XG2
 rcases Bool.eq_false_or_eq_true (inN n0 ti) with htx | htx
 rotate_left
 ·have HF : Hid (R = ⟨false, [], 0, 0⟩) := (by rw [← HR.out]; exact bpQ_no (fun h => by have := h.2.2; rw [H0.out, htx] at this; cases this) : R = ⟨false, [], 0, 0⟩)
  go_wp2_with fail
  refine (l10SpotIs_r ti _ _ _ _ _ _ _ _ _ false _ htx).mono ?_
  rintro e w3 ⟨rfl, hb3⟩
  clear y0 y1 y2 yl
  have XR0 : Blk w3 (nw + 1) [.bool false, .slice none 0 0, .int .i64 0, .int .i64 0] := HXR.out.bel (bel_step hb12 hb3)
  have u0 : w3.cell? ⟨nw + 1, 0, none⟩ = some (.bool false) := XR0.cell 0 (by simp)
  have u1 : w3.cell? ⟨nw + 1, 1, none⟩ = some (.slice none 0 0) := XR0.cell 1 (by simp)
  have u2 : w3.cell? ⟨nw + 1, 2, none⟩ = some (.int .i64 0) := XR0.cell 2 (by simp)
  have u3 : w3.cell? ⟨nw + 1, 3, none⟩ = some (.int .i64 0) := XR0.cell 3 (by simp)
  have f0 := XR0.free 0
  have f1 := XR0.free 1
  have f2 := XR0.free 2
  have f3 := XR0.free 3
  have ul := XR0.lt
  have XE := blk_st4 XR0 (.bool false) (.slice none 0 0) (.int .i64 0) (.int .i64 0)
  have r0 := XE.cell 0 (by simp)
  have r1 := XE.cell 1 (by simp)
  have r2 := XE.cell 2 (by simp)
  have r3 := XE.cell 3 (by simp)
  simp only [List.getElem_cons_zero, List.getElem_cons_succ] at r0 r1 r2 r3
  have HBE : Hid (Bel w (st4 w3 (nw + 1) (.bool false) (.slice none 0 0) (.int .i64 0) (.int .i64 0))) := bel_st4 (bel_step hBW (bel_step hb12 hb3)) hle
  obtain ⟨XZ, HXZ⟩ : ∃ T, Hid (T = st4 w3 (nw + 1) (.bool false) (.slice none 0 0) (.int .i64 0) (.int .i64 0)) := ⟨_, (rfl : st4 w3 (nw + 1) (.bool false) (.slice none 0 0) (.int .i64 0) (.int .i64 0) = _)⟩
  rw [← HXZ.out] at r0 r1 r2 r3 HBE
  clear XE XR0
  go_wp2
  rw [show (((w3.setCell ⟨nw + 1, 0, none⟩ (.bool false)).setCell ⟨nw + 1, 1, none⟩ (.slice none 0 0)).setCell ⟨nw + 1, 2, none⟩ (.int .i64 0)).setCell ⟨nw + 1, 3, none⟩ (.int .i64 0) = XZ from HXZ.out.symm]
  exact bodyPost_ret (v := .agg #[.bool false, .slice none 0 0, .int .i64 0, .int .i64 0]) (by simp [results, Tryz.results29, go_sem, r0, r1, r2, r3]) rfl ⟨by rw [HF.out]; exact PthO.zero _ _, HBE.out⟩
 obtain ⟨sp, hsp, rfl⟩ := inN_nat hsx
 obtain ⟨p, hp, rfl⟩ := inN_nat htx
 go_wp2_with fail
 refine (l10SpotIs_r (p : Int) _ _ _ _ _ _ _ _ _ true _ htx).mono ?_
 rintro e w3 ⟨rfl, hb3⟩
 clear y0 y1 y2 yl
 have HF : Hid (R = pthF n1 g (lstD n1 true g (p : Int)) sp (p : Int)) := (by rw [← HR.out, bpQ_yes HP.out (by rw [H0.out]; exact hsx) (by rw [H0.out]; exact htx), H1.out, Int.toNat_natCast] : R = pthF n1 g (lstD n1 true g (p : Int)) sp (p : Int))
 have hW3 := bel_step hb12 hb3
 have HW3 : Hid (Bel W w3) := hW3
 have HK : Hid (∀ w', Bel w3 w' → w'.cell? ⟨nw, 0, none⟩ = some (.slice a0 n0 c0) ∧ w'.cell? ⟨nw, 1, none⟩ = some (.slice a1 n1 c1) ∧ w'.cell? ⟨nw, 2, none⟩ = some (.slice a2 n2 c2)) := fun w' h => ⟨(HXG.out.bel (bel_step HW3.out h)).cell 0 (by simp), (HXG.out.bel (bel_step HW3.out h)).cell 1 (by simp), (HXG.out.bel (bel_step HW3.out h)).cell 2 (by simp)⟩
 have HB3 : Hid (Bel w w3) := bel_step hBW hW3
 have HR3 : Hid (Blk w3 (nw + 1) [.bool false, .slice none 0 0, .int .i64 0, .int .i64 0]) := HXR.out.bel hW3
 clear hb1 hb2 hb3 hb12 hW3
 go_upto_region 3 with fail
 refine wp_region_noPanic ?_
 refine wp_region_held_drew (S := fun w' => w'.cell? ⟨nw, 0, none⟩ = some (.slice a0 n0 c0) ∧ w'.cell? ⟨nw, 1, none⟩ = some (.slice a1 n1 c1) ∧ w'.cell? ⟨nw, 2, none⟩ = some (.slice a2 n2 c2)) (by kernel_rfl) (HK.out _ (Bel.refl _).drew) (fun hHeld => ?_)
 have hY0 : Bel w3 w3.drew := (Bel.refl _).drew
 generalize w3.drew = Y at hHeld hY0 ⊢
 refine tk 0 hHeld ?_; refine tk 1 hHeld ?_; refine tk 2 hHeld ?_; refine tk 4 hHeld ?_; refine tk 6 hHeld ?_; refine tk 7 hHeld ?_
 have hBY := bel_step HB3.out hY0
 refine rd1 3 (fun K hK => ?_)
 go_simp
 refine (HBk.out a0 n0 c0 a1 n1 c1 a2 n2 c2 g b0 b1 b2 p Y (HT.out.1.bel spotE hBY) (HT.out.2.1.bel roadE hBY) (HT.out.2.2.bel banE hBY) H0.out H1.out H2.out HP.out).mono ?_
 rintro e Y2 ⟨⟨Bt, Bc, D, s, rfl, hTm, hCt, hMJ, h0, _, _, _, hb2⟩⟩
 rw [H1.out] at hMJ ⊢
 have hY2 := bel_step hY0 hb2
 have hBY2 := bel_step HB3.out hY2
 have Hlst : Hid (lstD n1 true g (p : Int) = mO n1 s.dl) := hMJ.lst h0
 have HLC : Hid (LC n1 g (p : Int) (mO n1 s.dl)) := hMJ.lc h0 HP.out H1.out
 have Hbds : Hid (∀ x, x < n1 → -1 ≤ (cAt s.dl x).t ∧ (cAt s.dl x).t ≤ 100000000000) := hMJ.bds m1
 have Hln : Hid (s.dl.length = n1) := hMJ.len
 clear hMJ h0
 go_wp2_with fail
 refine hK.out _ _ (HK.out Y2 hY2) ?_; clear hK K hHeld; intro hHeld
 try simp only [Act.put, List.setIfInBounds_toArray, List.set_cons_zero, List.set_cons_succ]
 refine rd1 5 (fun K hK => ?_)
 go_simp
 refine (l10At_any a0 n0 c0 a1 n1 c1 a2 n2 c2 g b1 false Y2 (HT.out.2.1.bel roadE hBY2) H0.out H1.out HP.out).mono ?_
 rintro e Y3 ⟨⟨lo, B, V, rfl, hTab, _, _, hb3⟩⟩
 rw [H0.out, H1.out] at hTab
 rw [H0.out]
 have hY3 := bel_step hY2 hb3
 have hBY3 := bel_step HB3.out hY3
 go_wp2_with fail
 refine hK.out _ _ (HK.out Y3 hY3) ?_; clear hK K hHeld; intro hHeld
 try simp only [Act.put, List.setIfInBounds_toArray, List.set_cons_zero, List.set_cons_succ]
 have cB := l10Best_any a0 n0 c0 a1 n1 c1 a2 n2 c2 g b0 b1 b2 Bt Bc s.dl (mO n1 s.dl) lo B V sp p Y3 (HT.out.1.bel spotE hBY3) (HT.out.2.1.bel roadE hBY3) (HT.out.2.2.bel banE hBY3) H0.out H1.out H2.out HP.out (hTm.bel hb3) (hCt.bel hb3) Hln.out rfl HLC.out Hbds.out hTab hsp
 rw [← Hlst.out, ← HF.out] at cB
 clear hTm hCt hTab HF HLC Hbds Hlst
 refine rd1 8 (fun K hK => ?_)
 go_simp
 refine cB.mono ?_
 rintro e Y4 ⟨⟨va, vc, rfl, hO4⟩, hb4⟩
 have hY4 := bel_step hY3 hb4
 obtain ⟨ok, Hok⟩ : ∃ n, Hid (R.ok = n) := ⟨_, (rfl : R.ok = _)⟩
 obtain ⟨fl, Hfl⟩ : ∃ n, Hid (R.roads.length = n) := ⟨_, (rfl : R.roads.length = _)⟩
 obtain ⟨tm, Htm⟩ : ∃ n, Hid (R.time = n) := ⟨_, (rfl : R.time = _)⟩
 obtain ⟨ln, Hln2⟩ : ∃ n, Hid (R.len = n) := ⟨_, (rfl : R.len = _)⟩
 rw [Hok.out, Hfl.out, Htm.out, Hln2.out]
 rw [Hfl.out] at hO4
 clear cB
 go_wp2_with fail
 refine hK.out _ _ (HK.out Y4 hY4) ?_; clear hK K hHeld; intro hHeld
 try simp only [Act.put, List.setIfInBounds_toArray, List.set_cons_zero, List.set_cons_succ]
 have XR3 := HR3.out.bel hY4
 have XE := blk_st4 XR3 (.bool ok) (.slice va fl vc) (.int .i64 tm) (.int .i64 ln)
 have r0 := XE.cell 0 (by simp)
 have r1 := XE.cell 1 (by simp)
 have r2 := XE.cell 2 (by simp)
 have r3 := XE.cell 3 (by simp)
 simp only [List.getElem_cons_zero, List.getElem_cons_succ] at r0 r1 r2 r3
 have u0 : Y4.cell? ⟨nw + 1, 0, none⟩ = some (.bool false) := XR3.cell 0 (by simp)
 have u1 : Y4.cell? ⟨nw + 1, 1, none⟩ = some (.slice none 0 0) := XR3.cell 1 (by simp)
 have u2 : Y4.cell? ⟨nw + 1, 2, none⟩ = some (.int .i64 0) := XR3.cell 2 (by simp)
 have u3 : Y4.cell? ⟨nw + 1, 3, none⟩ = some (.int .i64 0) := XR3.cell 3 (by simp)
 have f0 := XR3.free 0
 have f1 := XR3.free 1
 have f2 := XR3.free 2
 have f3 := XR3.free 3
 have yl := XR3.lt
 have HBE : Hid (Bel w (st4 Y4 (nw + 1) (.bool ok) (.slice va fl vc) (.int .i64 tm) (.int .i64 ln))) := bel_st4 (bel_step HB3.out hY4) hle
 have hYn : nw + 1 < Y3.heap.size := Nat.lt_of_lt_of_le HR3.out.lt hY3.out.size
 have HOE : Hid ((st4 Y4 (nw + 1) (.bool ok) (.slice va fl vc) (.int .i64 tm) (.int .i64 ln)).ownsRow w.heap.size 2 1 (.slice va fl vc) fl (intsN R.roads)) := own_lo (own_blk (own_blk (own_blk (own_blk hO4 hYn) hYn) hYn) hYn) hBY3.out.size
 have HKE : Hid ((fun w' : World => w'.cell? ⟨nw, 0, none⟩ = some (.slice a0 n0 c0) ∧ w'.cell? ⟨nw, 1, none⟩ = some (.slice a1 n1 c1) ∧ w'.cell? ⟨nw, 2, none⟩ = some (.slice a2 n2 c2)) (st4 Y4 (nw + 1) (.bool ok) (.slice va fl vc) (.int .i64 tm) (.int .i64 ln))) := ⟨cell_st4 (by omega) hHeld.1, cell_st4 (by omega) hHeld.2.1, cell_st4 (by omega) hHeld.2.2⟩
 clear XE XR3 hO4
 refine rd1 9 (fun K hK => ?_)
 go_simp
 refine hK.out _ _ HKE.out (fun hHeld' => ?_)
 clear hK K hHeld hHeld'
 try simp only [Act.put, List.setIfInBounds_toArray, List.set_cons_zero, List.set_cons_succ]
 refine wpAnyH_done (by kernel_rfl) ?_ _
 refine NoPanic.normal ?_
 obtain ⟨XZ, HXZ⟩ : ∃ T, Hid (T = st4 Y4 (nw + 1) (.bool ok) (.slice va fl vc) (.int .i64 tm) (.int .i64 ln)) := ⟨_, (rfl : st4 Y4 (nw + 1) (.bool ok) (.slice va fl vc) (.int .i64 tm) (.int .i64 ln) = _)⟩
 rw [← HXZ.out] at r0 r1 r2 r3 HBE HOE
 rw [show (((Y4.setCell ⟨nw + 1, 0, none⟩ (.bool ok)).setCell ⟨nw + 1, 1, none⟩ (.slice va fl vc)).setCell ⟨nw + 1, 2, none⟩ (.int .i64 tm)).setCell ⟨nw + 1, 3, none⟩ (.int .i64 ln) = XZ from HXZ.out.symm]
 clear u0 u1 u2 u3 f0 f1 f2 f3 yl
 go_wp2
 exact bodyPost_ret (v := .agg #[.bool ok, .slice va fl vc, .int .i64 tm, .int .i64 ln]) (by simp [results, Tryz.results29, go_sem, r0, r1, r2, r3]) rfl ⟨⟨va, vc, by rw [Hok.out, Hfl.out, Htm.out, Hln2.out], by rw [Hfl.out]; exact HOE.out⟩, HBE.out⟩
end Go.Proofs.YtakedciemnkfhaaGreatDoor
