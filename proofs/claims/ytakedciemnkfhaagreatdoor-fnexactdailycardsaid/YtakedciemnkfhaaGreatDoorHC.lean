/-
  BestPath in the program: contract.
  Daily in the program: contract.
-/
import Derived.Test.YtakedciemnkfhaaGreatDoorGY
import Derived.Test.YtakedciemnkfhaaGreatDoorGQ
import Derived.Test.YtakedciemnkfhaaGreatDoorGW
import Derived.Test.YtakedciemnkfhaaGreatDoorGV
namespace Go.Proofs.YtakedciemnkfhaaGreatDoor
open Go.RowKit Go.Maps

/-- Four cells of a block are set. -/
abbrev st4 (w : World) (B : Nat) (v0 v1 v2 v3 : Value) : World := (((w.setCell ⟨B, 0, none⟩ v0).setCell ⟨B, 1, none⟩ v1).setCell ⟨B, 2, none⟩ v2).setCell ⟨B, 3, none⟩ v3
theorem blk_st4 {w : World} {B : Nat} {a b c d : Value} (h : Blk w B [a, b, c, d]) (v0 v1 v2 v3 : Value) : Blk (st4 w B v0 v1 v2 v3) B [v0, v1, v2, v3] := (((h.set 0 _ (by simp)).set 1 _ (by simp)).set 2 _ (by simp)).set 3 _ (by simp)
theorem bel_st4 {w a : World} {B : Nat} {v0 v1 v2 v3 : Value} (h : Bel w a) (hB : w.heap.size ≤ B) : Bel w (st4 a B v0 v1 v2 v3) := bel_set (bel_set (bel_set (bel_set h hB _) hB _) hB _) hB _
theorem cell_st4 {w : World} {B b o : Nat} {v0 v1 v2 v3 u : Value} (hne : B ≠ b) (h : w.cell? ⟨b, o, none⟩ = some u) : (st4 w B v0 v1 v2 v3).cell? ⟨b, o, none⟩ = some u := by
 have hn : ∀ i : Nat, (⟨B, i, none⟩ : Addr) ≠ ⟨b, o, none⟩ := fun i e => hne (congrArg Addr.block e)
 rw [World.cell?_setCell_other _ _ _ _ (hn 3), World.cell?_setCell_other _ _ _ _ (hn 2), World.cell?_setCell_other _ _ _ _ (hn 1), World.cell?_setCell_other _ _ _ _ (hn 0)]
 exact h
/-- A path as a value that owns its Roads. -/
structure PthO (base : Nat) (w : World) (p : PthD) (e : Ending) : Prop where
 out : ∃ va vc, e = .returned (.agg #[.bool p.ok, .slice va p.roads.length vc, .int .i64 p.time, .int .i64 p.len]) ∧ w.ownsRow base 2 1 (.slice va p.roads.length vc) p.roads.length (intsN p.roads)
theorem PthO.zero (base : Nat) (w : World) : PthO base w ⟨false, [], 0, 0⟩ (.returned (.agg #[.bool false, .slice none 0 0, .int .i64 0, .int .i64 0])) := ⟨none, 0, rfl, World.ownsRow_nil _ _ _ _⟩
/-- What a leg tells of the path. -/
theorem leg_cases {n p sp : Nat} {g : GraphD} {d : Nat → Option Cst} {bl : List Cst} (hL : LC n g (p : Int) d) (hc : ∀ x, x < n → cAt bl x = (d x).getD ⟨noT, 0⟩) :
  ((lgF bl true g (p : Int) n sp).1.t = noT ∧ pthF n g d sp (p : Int) = ⟨false, [], 0, 0⟩) ∨
  ∃ (c : Cst) (o : Option Nat) (F : List Nat), lgF bl true g (p : Int) n sp = (c, nxI o) ∧ c.t ≠ noT ∧ RfR n g d F [] o ∧ F.length ≤ 8001 ∧ (∀ x ∈ F, x < n) ∧ pthF n g d sp (p : Int) = ⟨true, F, c.t, lnS g F⟩ := by
 have hl := hL.hl
 have hN : n ≤ 8000 := by rw [← hl]; exact hL.hg.1.2.1
 have hb : ∀ x c, d x = some c → c.t < noT := fun x c hd => by
  have := hL.bd x c hd
  show c.t < 9223372036854775807
  omega
 by_cases e : sp = p
 ·subst e
  right
  refine ⟨⟨0, 0⟩, none, [], ?_, by decide, rfl, Nat.zero_le _, (fun _ h => nomatch h), ?_⟩
  ·rw [← hl]
   refine lgF_start (fun x hx => ?_) _ (Nat.le_refl _)
   rw [hc x (by omega)]
   cases hd : d x with
   | none => exact ⟨by decide, by decide⟩
   | some c =>
    have := hL.bd x c hd
    exact ⟨this.2.2.2.1, by show 0 ≤ c.c; omega⟩
  ·unfold pthF
   rw [if_pos rfl]
   rfl
 ·have hne : (sp : Int) ≠ (p : Int) := by omega
  have hlg : lgF bl true g (p : Int) n sp = lgO (miF d (bgF g.roads n true sp)) := by
   rw [← hl]
   exact lgF_other hne (fun x hx => hc x (by omega)) hb _ (Nat.le_refl _)
  rw [hlg]
  unfold pthF
  rw [if_neg hne]
  cases hm : miF d (bgF g.roads n true sp) with
  | none => exact .inl ⟨rfl, rfl⟩
  | some b =>
   have hd := (miF_mem (x := b.1) (c := b.2) hm).2
   have hbd := hL.bd _ _ hd
   right
   refine ⟨b.2, some b.1, chR n g d b.2.c.toNat b.1, rfl, by have := hb _ _ hd; omega, ⟨b.2, hd, rfl⟩, ?_, hL.lt _ _ _ hd (by omega), rfl⟩
   rw [hL.len _ _ _ hd (by omega)]
   omega

set_option maxRecDepth 100000 in
set_option maxHeartbeats 4000000 in
theorem bestPath_any (v : Value) (g : GraphD) (bs : List Nat) (si ti : Int) (w : World) (hT : Winds w) (hV : GphV w v g bs) (hQ : GphQ g) :
  Calls Tryz.prog 35 #[v, .int .i64 si, .int .i64 ti] w fun e w' => PthO w.heap.size w' (bpQ g si ti) e ∧ Bel w w' := by
 have hV' := hV
 obtain ⟨a0, c0, a1, c1, a2, c2, b0, b1, b2, _, rfl, t0, t1, t2⟩ := hV
 obtain ⟨n0, H0⟩ : ∃ n, Hid (g.places.length = n) := ⟨_, (rfl : g.places.length = _)⟩
 obtain ⟨n1, H1⟩ : ∃ n, Hid (g.roads.length = n) := ⟨_, (rfl : g.roads.length = _)⟩
 obtain ⟨n2, H2⟩ : ∃ n, Hid (g.bans.length = n) := ⟨_, (rfl : g.bans.length = _)⟩
 rw [H0.out, H1.out, H2.out] at hV' ⊢
 obtain ⟨W, HW⟩ : ∃ W, Hid (W = (w.alloc (.cells #[.slice a0 n0 c0, .slice a1 n1 c1, .slice a2 n2 c2] 36)).alloc (.cells #[.bool false, .slice none 0 0, .int .i64 0, .int .i64 0] 30)) := ⟨_, (rfl : (w.alloc (.cells #[.slice a0 n0 c0, .slice a1 n1 c1, .slice a2 n2 c2] 36)).alloc (.cells #[.bool false, .slice none 0 0, .int .i64 0, .int .i64 0] 30) = _)⟩
 have hBW : Bel w W := by rw [HW.out]; exact bel_alloc (bel_alloc (Bel.refl _) _) _
 have XG : Blk W w.heap.size [.slice a0 n0 c0, .slice a1 n1 c1, .slice a2 n2 c2] := by rw [HW.out]; exact (Blk.new w [.slice a0 n0 c0, .slice a1 n1 c1, .slice a2 n2 c2] _).bel (bel_alloc (Bel.refl _) _)
 have XR : Blk W (w.heap.size + 1) [.bool false, .slice none 0 0, .int .i64 0, .int .i64 0] := by rw [HW.out]; exact Blk.new1 w _ [.bool false, .slice none 0 0, .int .i64 0, .int .i64 0] _
 obtain ⟨nw, Hnw⟩ : ∃ n, Hid (w.heap.size = n) := ⟨_, (rfl : w.heap.size = _)⟩
 rw [Hnw.out] at XG XR
 have hle : w.heap.size ≤ nw + 1 := by rw [Hnw.out]; omega
 obtain ⟨R, HR⟩ : ∃ R, Hid (bpQ g si ti = R) := ⟨_, (rfl : bpQ g si ti = _)⟩
 rw [HR.out]
 have HXR : Hid (Blk W (nw + 1) [.bool false, .slice none 0 0, .int .i64 0, .int .i64 0]) := XR
 clear XR
 by_cases hP : graphP g
 rotate_left
 ·have HF : Hid (R = ⟨false, [], 0, 0⟩) := (by rw [← HR.out]; exact bpQ_no (fun h => hP h.1) : R = ⟨false, [], 0, 0⟩)
  clear XG
  go_enter Tryz.func35, Tryz.ntmps35
  go_wp2_with fail
  rw [← HW.out]
  refine (streetsOf_no _ _ _ _ _ _ _ _ _ g bs _ (hV'.bel hBW) hQ hP).mono ?_
  rintro e w1 ⟨rfl, hb1⟩
  have hB1 := bel_step hBW hb1
  obtain ⟨U, HU⟩ : ∃ U, Hid (U = w1.alloc (.cells #[.slice none 0 0, .slice none 0 0, .slice none 0 0, .slice none 0 0, .slice none 0 0, .map none, .slice none 0 0] 111)) := ⟨_, (rfl : w1.alloc (.cells #[.slice none 0 0, .slice none 0 0, .slice none 0 0, .slice none 0 0, .slice none 0 0, .map none, .slice none 0 0] 111) = _)⟩
  have hbU : Bel w1 U := by rw [HU.out]; exact bel_alloc (Bel.refl _) _
  go_upto_region 2 with fail
  rw [← HU.out]
  rw [Hnw.out]
  have XR0 : Blk U (nw + 1) [.bool false, .slice none 0 0, .int .i64 0, .int .i64 0] := HXR.out.bel (bel_step hb1 hbU)
  have u0 : U.cell? ⟨nw + 1, 0, none⟩ = some (.bool false) := XR0.cell 0 (by simp)
  have u1 : U.cell? ⟨nw + 1, 1, none⟩ = some (.slice none 0 0) := XR0.cell 1 (by simp)
  have u2 : U.cell? ⟨nw + 1, 2, none⟩ = some (.int .i64 0) := XR0.cell 2 (by simp)
  have u3 : U.cell? ⟨nw + 1, 3, none⟩ = some (.int .i64 0) := XR0.cell 3 (by simp)
  have f0 := XR0.free 0
  have f1 := XR0.free 1
  have f2 := XR0.free 2
  have f3 := XR0.free 3
  have ul := XR0.lt
  have XE := blk_st4 XR0 (.bool false) (.slice none 0 0) (.int .i64 0) (.int .i64 0)
  have r0 := XE.cell 0 (by simp)
  have r1 := XE.cell 1 (by simp)
  have r2 := XE.cell 2 (by simp)
  have r3 := XE.cell 3 (by simp)
  simp only [List.getElem_cons_zero, List.getElem_cons_succ] at r0 r1 r2 r3
  have HBE : Hid (Bel w (st4 U (nw + 1) (.bool false) (.slice none 0 0) (.int .i64 0) (.int .i64 0))) := bel_st4 (bel_step hB1 hbU) hle
  obtain ⟨XZ, HXZ⟩ : ∃ T, Hid (T = st4 U (nw + 1) (.bool false) (.slice none 0 0) (.int .i64 0) (.int .i64 0)) := ⟨_, (rfl : st4 U (nw + 1) (.bool false) (.slice none 0 0) (.int .i64 0) (.int .i64 0) = _)⟩
  rw [← HXZ.out] at r0 r1 r2 r3 HBE
  clear XE XR0
  go_wp2
  rw [show (((U.setCell ⟨nw + 1, 0, none⟩ (.bool false)).setCell ⟨nw + 1, 1, none⟩ (.slice none 0 0)).setCell ⟨nw + 1, 2, none⟩ (.int .i64 0)).setCell ⟨nw + 1, 3, none⟩ (.int .i64 0) = XZ from HXZ.out.symm]
  exact bodyPost_ret (v := .agg #[.bool false, .slice none 0 0, .int .i64 0, .int .i64 0]) (by simp [results, Tryz.results35, go_sem, r0, r1, r2, r3]) rfl ⟨by rw [HF.out]; exact PthO.zero _ _, HBE.out⟩
 have HP : Hid (graphP g) := hP
 have m1 : n1 ≤ 8000 := by rw [← H1.out]; exact hP.1.2.1
 have m0 : n0 ≤ 5000 := by rw [← H0.out]; exact hP.1.1
 clear hP
 go_enter Tryz.func35, Tryz.ntmps35
 go_wp2_with fail
 rw [← HW.out]
 refine (streetsOf_yes _ _ _ _ _ _ _ _ _ g b0 b1 b2 _ (hT.bel hBW) (t0.bel spotE hBW) (t1.bel roadE hBW) (t2.bel banE hBW) H0.out H1.out H2.out HP.out).mono ?_
 rintro e w1 ⟨⟨lo, Bb, Be, M, Wd, V, rfl, hTb, hS, hWn, hMl, _, _, _, hb1⟩⟩
 rw [H0.out, H1.out] at hTb
 rw [H1.out] at hWn
 rw [H0.out, H1.out]
 have hB1 := bel_step hBW hb1
 obtain ⟨U, HU⟩ : ∃ U, Hid (U = w1.alloc (.cells #[.slice a0 n0 c0, .slice a1 n1 c1, .slice a2 n2 c2, .slice (some ⟨Bb, 0, none⟩) n0 n0, .slice (some ⟨Be, 0, none⟩) n0 n0, .map (some M), .slice (some ⟨Wd, 0, none⟩) n1 n1] 111)) := ⟨_, (rfl : w1.alloc (.cells #[.slice a0 n0 c0, .slice a1 n1 c1, .slice a2 n2 c2, .slice (some ⟨Bb, 0, none⟩) n0 n0, .slice (some ⟨Be, 0, none⟩) n0 n0, .map (some M), .slice (some ⟨Wd, 0, none⟩) n1 n1] 111) = _)⟩
 have hbU : Bel w1 U := by rw [HU.out]; exact bel_alloc (Bel.refl _) _
 have hBU := bel_step hB1 hbU
 have hWU := bel_step hb1 hbU
 have XG1 := XG.bel hWU
 have x0 : U.cell? ⟨nw, 0, none⟩ = some (.slice a0 n0 c0) := XG1.cell 0 (by simp)
 have xl := XG1.lt
 go_upto_region 2 with fail
 rw [← HU.out, Hnw.out]
 rcases Bool.eq_false_or_eq_true (inN n0 si) with hsx | hsx
 rotate_left
 ·have HF : Hid (R = ⟨false, [], 0, 0⟩) := (by rw [← HR.out]; exact bpQ_no (fun h => by have := h.2.1; rw [H0.out, hsx] at this; cases this) : R = ⟨false, [], 0, 0⟩)
  clear XG1 XG hS hWn hTb
  go_wp2_with fail
  refine (inSpot_r _ _ _ _ false _ hsx).mono ?_
  rintro e w' ⟨rfl, hw'⟩
  obtain rfl := hw'.symm
  have XR0 : Blk U (nw + 1) [.bool false, .slice none 0 0, .int .i64 0, .int .i64 0] := HXR.out.bel (hWU)
  have u0 : U.cell? ⟨nw + 1, 0, none⟩ = some (.bool false) := XR0.cell 0 (by simp)
  have u1 : U.cell? ⟨nw + 1, 1, none⟩ = some (.slice none 0 0) := XR0.cell 1 (by simp)
  have u2 : U.cell? ⟨nw + 1, 2, none⟩ = some (.int .i64 0) := XR0.cell 2 (by simp)
  have u3 : U.cell? ⟨nw + 1, 3, none⟩ = some (.int .i64 0) := XR0.cell 3 (by simp)
  have f0 := XR0.free 0
  have f1 := XR0.free 1
  have f2 := XR0.free 2
  have f3 := XR0.free 3
  have ul := XR0.lt
  have XE := blk_st4 XR0 (.bool false) (.slice none 0 0) (.int .i64 0) (.int .i64 0)
  have r0 := XE.cell 0 (by simp)
  have r1 := XE.cell 1 (by simp)
  have r2 := XE.cell 2 (by simp)
  have r3 := XE.cell 3 (by simp)
  simp only [List.getElem_cons_zero, List.getElem_cons_succ] at r0 r1 r2 r3
  have HBE : Hid (Bel w (st4 U (nw + 1) (.bool false) (.slice none 0 0) (.int .i64 0) (.int .i64 0))) := bel_st4 (hBU) hle
  obtain ⟨XZ, HXZ⟩ : ∃ T, Hid (T = st4 U (nw + 1) (.bool false) (.slice none 0 0) (.int .i64 0) (.int .i64 0)) := ⟨_, (rfl : st4 U (nw + 1) (.bool false) (.slice none 0 0) (.int .i64 0) (.int .i64 0) = _)⟩
  rw [← HXZ.out] at r0 r1 r2 r3 HBE
  clear XE XR0
  go_wp2
  rw [show (((U.setCell ⟨nw + 1, 0, none⟩ (.bool false)).setCell ⟨nw + 1, 1, none⟩ (.slice none 0 0)).setCell ⟨nw + 1, 2, none⟩ (.int .i64 0)).setCell ⟨nw + 1, 3, none⟩ (.int .i64 0) = XZ from HXZ.out.symm]
  exact bodyPost_ret (v := .agg #[.bool false, .slice none 0 0, .int .i64 0, .int .i64 0]) (by simp [results, Tryz.results35, go_sem, r0, r1, r2, r3]) rfl ⟨by rw [HF.out]; exact PthO.zero _ _, HBE.out⟩
 rcases Bool.eq_false_or_eq_true (inN n0 ti) with htx | htx
 rotate_left
 ·have HF : Hid (R = ⟨false, [], 0, 0⟩) := (by rw [← HR.out]; exact bpQ_no (fun h => by have := h.2.2; rw [H0.out, htx] at this; cases this) : R = ⟨false, [], 0, 0⟩)
  clear XG1 XG hS hWn hTb
  go_wp2_with fail
  refine (inSpot_r _ _ _ _ true _ hsx).mono ?_
  rintro e w' ⟨rfl, hw'⟩
  obtain rfl := hw'.symm
  go_wp2_with fail
  refine (inSpot_r _ _ _ _ false _ htx).mono ?_
  rintro e w' ⟨rfl, hw'⟩
  obtain rfl := hw'.symm
  have XR0 : Blk U (nw + 1) [.bool false, .slice none 0 0, .int .i64 0, .int .i64 0] := HXR.out.bel (hWU)
  have u0 : U.cell? ⟨nw + 1, 0, none⟩ = some (.bool false) := XR0.cell 0 (by simp)
  have u1 : U.cell? ⟨nw + 1, 1, none⟩ = some (.slice none 0 0) := XR0.cell 1 (by simp)
  have u2 : U.cell? ⟨nw + 1, 2, none⟩ = some (.int .i64 0) := XR0.cell 2 (by simp)
  have u3 : U.cell? ⟨nw + 1, 3, none⟩ = some (.int .i64 0) := XR0.cell 3 (by simp)
  have f0 := XR0.free 0
  have f1 := XR0.free 1
  have f2 := XR0.free 2
  have f3 := XR0.free 3
  have ul := XR0.lt
  have XE := blk_st4 XR0 (.bool false) (.slice none 0 0) (.int .i64 0) (.int .i64 0)
  have r0 := XE.cell 0 (by simp)
  have r1 := XE.cell 1 (by simp)
  have r2 := XE.cell 2 (by simp)
  have r3 := XE.cell 3 (by simp)
  simp only [List.getElem_cons_zero, List.getElem_cons_succ] at r0 r1 r2 r3
  have HBE : Hid (Bel w (st4 U (nw + 1) (.bool false) (.slice none 0 0) (.int .i64 0) (.int .i64 0))) := bel_st4 (hBU) hle
  obtain ⟨XZ, HXZ⟩ : ∃ T, Hid (T = st4 U (nw + 1) (.bool false) (.slice none 0 0) (.int .i64 0) (.int .i64 0)) := ⟨_, (rfl : st4 U (nw + 1) (.bool false) (.slice none 0 0) (.int .i64 0) (.int .i64 0) = _)⟩
  rw [← HXZ.out] at r0 r1 r2 r3 HBE
  clear XE XR0
  go_wp2
  rw [show (((U.setCell ⟨nw + 1, 0, none⟩ (.bool false)).setCell ⟨nw + 1, 1, none⟩ (.slice none 0 0)).setCell ⟨nw + 1, 2, none⟩ (.int .i64 0)).setCell ⟨nw + 1, 3, none⟩ (.int .i64 0) = XZ from HXZ.out.symm]
  exact bodyPost_ret (v := .agg #[.bool false, .slice none 0 0, .int .i64 0, .int .i64 0]) (by simp [results, Tryz.results35, go_sem, r0, r1, r2, r3]) rfl ⟨by rw [HF.out]; exact PthO.zero _ _, HBE.out⟩
 obtain ⟨sp, hsp, rfl⟩ := inN_nat hsx
 obtain ⟨p, hp, rfl⟩ := inN_nat htx
 have HF : Hid (R = pthF n1 g (lstD n1 true g (p : Int)) sp (p : Int)) := (by rw [← HR.out, bpQ_yes HP.out (by rw [H0.out]; exact hsx) (by rw [H0.out]; exact htx), H1.out, Int.toNat_natCast] : R = pthF n1 g (lstD n1 true g (p : Int)) sp (p : Int))
 have XU : Blk U w1.heap.size [.slice a0 n0 c0, .slice a1 n1 c1, .slice a2 n2 c2, .slice (some ⟨Bb, 0, none⟩) n0 n0, .slice (some ⟨Be, 0, none⟩) n0 n0, .map (some M), .slice (some ⟨Wd, 0, none⟩) n1 n1] := by rw [HU.out]; exact Blk.new w1 [.slice a0 n0 c0, .slice a1 n1 c1, .slice a2 n2 c2, .slice (some ⟨Bb, 0, none⟩) n0 n0, .slice (some ⟨Be, 0, none⟩) n0 n0, .map (some M), .slice (some ⟨Wd, 0, none⟩) n1 n1] _
 obtain ⟨Bs, HBs⟩ : ∃ n, Hid (w1.heap.size = n) := ⟨_, (rfl : w1.heap.size = _)⟩
 rw [HBs.out] at XU
 have v0 : U.cell? ⟨Bs, 0, none⟩ = some (.slice a0 n0 c0) := XU.cell 0 (by simp)
 have v1 : U.cell? ⟨Bs, 1, none⟩ = some (.slice a1 n1 c1) := XU.cell 1 (by simp)
 have v2 : U.cell? ⟨Bs, 2, none⟩ = some (.slice a2 n2 c2) := XU.cell 2 (by simp)
 have v3 : U.cell? ⟨Bs, 3, none⟩ = some (.slice (some ⟨Bb, 0, none⟩) n0 n0) := XU.cell 3 (by simp)
 have v4 : U.cell? ⟨Bs, 4, none⟩ = some (.slice (some ⟨Be, 0, none⟩) n0 n0) := XU.cell 4 (by simp)
 have v5 : U.cell? ⟨Bs, 5, none⟩ = some (.map (some M)) := XU.cell 5 (by simp)
 have v6 : U.cell? ⟨Bs, 6, none⟩ = some (.slice (some ⟨Wd, 0, none⟩) n1 n1) := XU.cell 6 (by simp)
 have ul := XU.lt
 have hb1U := hbU
 have hsM : M < U.heap.size := by have := hTb.sz; have := hb1U.out.size; omega
 have hsW : Wd < U.heap.size := by have := hWn.lt; have := hb1U.out.size; omega
 have hsR : ∀ y ∈ b1, y < U.heap.size := fun y hy => by have := t1.lt roadE y hy; have := hBU.out.size; omega
 have hC : Stc U.heap.size ⟨a0, n0, c0, a1, n1, c1, a2, n2, c2, Bb, Be, M, Wd, true, (p : Int)⟩ g b1 g.bans.length U := ⟨t1.bel roadE hBU, hsR, hWn.bel hb1U, hsW, hS.bel hb1U, hsM, H1.out, HP.out⟩
 have cS := searchBack_any ⟨a0, n0, c0, a1, n1, c1, a2, n2, c2, Bb, Be, M, Wd, true, (p : Int)⟩ lo g.bans.length V g b1 p U (hTb.bel hb1U) hC H0.out hp rfl rfl
 have HcS : Hid (Calls Tryz.prog 68 #[.agg #[.slice a0 n0 c0, .slice a1 n1 c1, .slice a2 n2 c2, .slice (some ⟨Bb, 0, none⟩) n0 n0, .slice (some ⟨Be, 0, none⟩) n0 n0, .map (some M), .slice (some ⟨Wd, 0, none⟩) n1 n1], .int .i64 (p : Int)] U fun e w' => BegOut U ⟨a0, n0, c0, a1, n1, c1, a2, n2, c2, Bb, Be, M, Wd, true, (p : Int)⟩ g e w') := cS
 have HC : Hid (Stc U.heap.size ⟨a0, n0, c0, a1, n1, c1, a2, n2, c2, Bb, Be, M, Wd, true, (p : Int)⟩ g b1 g.bans.length U) := hC
 have HRw : Hid (RwS U lo Bb ((List.range n0).map (bgF g.roads n1 true))) := RwS.of (hTb.bel hb1U) true rfl
 have HXU : Hid (Blk U Bs [.slice a0 n0 c0, .slice a1 n1 c1, .slice a2 n2 c2, .slice (some ⟨Bb, 0, none⟩) n0 n0, .slice (some ⟨Be, 0, none⟩) n0 n0, .map (some M), .slice (some ⟨Wd, 0, none⟩) n1 n1]) := XU
 have HT1 : Hid (RoadL U a1 g.roads b1) := t1.bel roadE hBU
 have HBU : Hid (Bel w U) := hBU
 have HWU : Hid (Bel W U) := hWU
 have Hb1 : Hid (Bel W w1) := hb1
 clear XG1 XG hS hWn hTb cS hC XU hbU hB1 hb1U hBU hWU t0 t1 t2 hV' hb1
 go_wp2_with fail
 refine (inSpot_r _ _ _ _ true _ hsx).mono ?_
 rintro e w' ⟨rfl, hw'⟩
 obtain rfl := hw'.symm
 go_wp2_with fail
 refine (inSpot_r _ _ _ _ true _ htx).mono ?_
 rintro e w' ⟨rfl, hw'⟩
 obtain rfl := hw'.symm
 go_upto_region 4 with fail
 try rw [HBs.out]
 go_wp2_with fail
 refine HcS.out.mono ?_
 rintro e wS ⟨⟨base, P, vl, s, Ls, D, rfl, hSJ, h0, hSt, hbs, hbS⟩⟩
 have hLC : LC n1 g (p : Int) (dO n1 s.bl) := hSJ.lc h0 rfl HP.out H1.out
 have hLs : lstD n1 true g (p : Int) = dO n1 s.bl := hSJ.lst h0
 have hcat : ∀ y, y < n1 → cAt s.bl y = (dO n1 s.bl y).getD ⟨noT, 0⟩ := fun y hy => hSJ.cat hy
 have Hbl : Hid (s.bl.length = n1) := hSJ.bl
 rw [hLs] at HF
 obtain ⟨vb, vo, vi, ys, hP1, hB1', _, _, _, _⟩ := hSt.out
 have HP1 : Hid (SrP base ⟨a0, n0, c0, a1, n1, c1, a2, n2, c2, Bb, Be, M, Wd, true, (p : Int)⟩ P wS vb vl vo vi) := hP1
 have HB1 : Hid (SrB base wS vb s.bl) := hB1'
 have HbS : Hid (Bel U wS) := hbS
 have HLC : Hid (LC n1 g (p : Int) (dO n1 s.bl)) := hLC
 have Hcat : Hid (∀ y, y < n1 → cAt s.bl y = (dO n1 s.bl y).getD ⟨noT, 0⟩) := hcat
 have hcases := leg_cases (sp := sp) hLC hcat
 obtain ⟨dd, Hdd⟩ : ∃ d, Hid (dO n1 s.bl = d) := ⟨_, (rfl : dO n1 s.bl = _)⟩
 rw [Hdd.out] at hcases HLC HF Hcat
 obtain ⟨z, Hz⟩ : ∃ z, Hid (lgF s.bl true g (p : Int) n1 sp = z) := ⟨_, (rfl : lgF s.bl true g (p : Int) n1 sp = _)⟩
 rw [Hz.out] at hcases
 have Hcases : Hid ((z.1.t = noT ∧ pthF n1 g dd sp (p : Int) = ⟨false, [], 0, 0⟩) ∨ ∃ (c : Cst) (o : Option Nat) (F : List Nat), z = (c, nxI o) ∧ c.t ≠ noT ∧ RfR n1 g dd F [] o ∧ F.length ≤ 8001 ∧ (∀ x ∈ F, x < n1) ∧ pthF n1 g dd sp (p : Int) = ⟨true, F, c.t, lnS g F⟩) := hcases
 have XS := HXU.out.bel hbS
 have s0 : wS.cell? ⟨Bs, 0, none⟩ = some (.slice a0 n0 c0) := XS.cell 0 (by simp)
 have s1 : wS.cell? ⟨Bs, 1, none⟩ = some (.slice a1 n1 c1) := XS.cell 1 (by simp)
 have s2 : wS.cell? ⟨Bs, 2, none⟩ = some (.slice a2 n2 c2) := XS.cell 2 (by simp)
 have s3 : wS.cell? ⟨Bs, 3, none⟩ = some (.slice (some ⟨Bb, 0, none⟩) n0 n0) := XS.cell 3 (by simp)
 have s4 : wS.cell? ⟨Bs, 4, none⟩ = some (.slice (some ⟨Be, 0, none⟩) n0 n0) := XS.cell 4 (by simp)
 have s5 : wS.cell? ⟨Bs, 5, none⟩ = some (.map (some M)) := XS.cell 5 (by simp)
 have s6 : wS.cell? ⟨Bs, 6, none⟩ = some (.slice (some ⟨Wd, 0, none⟩) n1 n1) := XS.cell 6 (by simp)
 have sl := XS.lt
 clear hSJ h0 hSt hP1 hB1' hLC hLs hcat hcases HcS XS v0 v1 v2 v3 v4 v5 v6 x0 xl ul hbs hbS
 go_wp2_with fail
 refine (numbers_any a0 n0 c0 a1 n1 c1 a2 n2 c2 Bb Be M Wd wS m1).mono ?_
 rintro e wN ⟨Gn, rfl, hGn, hbN⟩
 have HbN : Hid (Bel wS wN) := hbN
 clear s0 s1 s2 s3 s4 s5 s6 sl
 go_wp2_with fail
 refine (legs_any base P ⟨a0, n0, c0, a1, n1, c1, a2, n2, c2, Bb, Be, M, Wd, true, (p : Int)⟩ vb vl vo vi g b1 s.bl Gn wS.heap.size p wN (own_bel HP1.out hbN) (own_bel HB1.out hbN) (HT1.out.bel roadE (bel_step HbS.out hbN)) H1.out Hbl.out HP.out H0.out rfl hp hGn).mono ?_
 rintro e wL ⟨L, rfl, hOL, hbL⟩
 have hlen := lgL_len s.bl true g (p : Int) n0 n1
 obtain ⟨q0, q1, q2⟩ := leg_at hOL hlen (i := sp) (by rw [hlen]; exact hsp)
 rw [lgL_at hsp, Hz.out] at q0 q1 q2
 have ql := (World.ownsRow.lt hOL L rfl).2
 have hspI : (sp : Int) < (n0 : Int) := by omega
 have HBL : Hid (Bel U wL) := bel_step HbS.out (bel_step hbN hbL)
 have HBH : Hid (BhS base P ⟨a0, n0, c0, a1, n1, c1, a2, n2, c2, Bb, Be, M, Wd, true, (p : Int)⟩ g lo s.bl dd (p : Int) wL) := ⟨⟨vb, vl, vo, vi, b1, g.bans.length, own_bel HP1.out (bel_step hbN hbL), own_bel HB1.out (bel_step hbN hbL), (HC.out.bel HBL.out).mono HBL.out.out.size⟩, HRw.out.bel HBL.out, Hbl.out, H0.out, rfl, Hcat.out, HLC.out⟩
 obtain ⟨X, HX⟩ : ∃ X, Hid (X = wL.alloc (.cells #[.int .i64 z.1.t, .int .i64 z.1.c, .int .i64 z.2] 120)) := ⟨_, (rfl : wL.alloc (.cells #[.int .i64 z.1.t, .int .i64 z.1.c, .int .i64 z.2] 120) = _)⟩
 have hbX : Bel wL X := by rw [HX.out]; exact bel_alloc (Bel.refl _) _
 have XO : Blk X wL.heap.size [.int .i64 z.1.t, .int .i64 z.1.c, .int .i64 z.2] := by rw [HX.out]; exact Blk.new wL [.int .i64 z.1.t, .int .i64 z.1.c, .int .i64 z.2] _
 obtain ⟨Bo, HBo⟩ : ∃ n, Hid (wL.heap.size = n) := ⟨_, (rfl : wL.heap.size = _)⟩
 rw [HBo.out] at XO
 have HBUX : Hid (Bel U X) := bel_step HBL.out hbX
 have HbX : Hid (Bel wL X) := hbX
 have z0 : X.cell? ⟨Bo, 0, none⟩ = some (.int .i64 z.1.t) := XO.cell 0 (by simp)
 have z1 : X.cell? ⟨Bo, 1, none⟩ = some (.int .i64 z.1.c) := XO.cell 1 (by simp)
 have z2 : X.cell? ⟨Bo, 2, none⟩ = some (.int .i64 z.2) := XO.cell 2 (by simp)
 have zl := XO.lt
 have HXO : Hid (Blk X Bo [.int .i64 z.1.t, .int .i64 z.1.c, .int .i64 z.2]) := XO
 clear hOL hbL hbN hGn hlen XO hbX
 go_upto_region 6 with fail
 rw [← HX.out, HBo.out]
 clear q0 q1 q2 ql
 rcases Hcases.out with ⟨hzt, hpz⟩ | ⟨c, o, F, hzz, hct, hRf, hFl, hFm, hpf⟩
 ·have HF : Hid (R = ⟨false, [], 0, 0⟩) := (by rw [HF.out, hpz] : R = ⟨false, [], 0, 0⟩)
  rw [hzt] at z0
  clear hpz hzt Hcases
  have XR0 : Blk X (nw + 1) [.bool false, .slice none 0 0, .int .i64 0, .int .i64 0] := HXR.out.bel (bel_step HWU.out HBUX.out)
  have u0 : X.cell? ⟨nw + 1, 0, none⟩ = some (.bool false) := XR0.cell 0 (by simp)
  have u1 : X.cell? ⟨nw + 1, 1, none⟩ = some (.slice none 0 0) := XR0.cell 1 (by simp)
  have u2 : X.cell? ⟨nw + 1, 2, none⟩ = some (.int .i64 0) := XR0.cell 2 (by simp)
  have u3 : X.cell? ⟨nw + 1, 3, none⟩ = some (.int .i64 0) := XR0.cell 3 (by simp)
  have f0 := XR0.free 0
  have f1 := XR0.free 1
  have f2 := XR0.free 2
  have f3 := XR0.free 3
  have ul := XR0.lt
  have XE := blk_st4 XR0 (.bool false) (.slice none 0 0) (.int .i64 0) (.int .i64 0)
  have r0 := XE.cell 0 (by simp)
  have r1 := XE.cell 1 (by simp)
  have r2 := XE.cell 2 (by simp)
  have r3 := XE.cell 3 (by simp)
  simp only [List.getElem_cons_zero, List.getElem_cons_succ] at r0 r1 r2 r3
  have HBE : Hid (Bel w (st4 X (nw + 1) (.bool false) (.slice none 0 0) (.int .i64 0) (.int .i64 0))) := bel_st4 (bel_step HBU.out HBUX.out) hle
  obtain ⟨XZ, HXZ⟩ : ∃ T, Hid (T = st4 X (nw + 1) (.bool false) (.slice none 0 0) (.int .i64 0) (.int .i64 0)) := ⟨_, (rfl : st4 X (nw + 1) (.bool false) (.slice none 0 0) (.int .i64 0) (.int .i64 0) = _)⟩
  rw [← HXZ.out] at r0 r1 r2 r3 HBE
  clear XE XR0
  go_wp2
  rw [show (((X.setCell ⟨nw + 1, 0, none⟩ (.bool false)).setCell ⟨nw + 1, 1, none⟩ (.slice none 0 0)).setCell ⟨nw + 1, 2, none⟩ (.int .i64 0)).setCell ⟨nw + 1, 3, none⟩ (.int .i64 0) = XZ from HXZ.out.symm]
  exact bodyPost_ret (v := .agg #[.bool false, .slice none 0 0, .int .i64 0, .int .i64 0]) (by simp [results, Tryz.results35, go_sem, r0, r1, r2, r3]) rfl ⟨by rw [HF.out]; exact PthO.zero _ _, HBE.out⟩
 have HFq : Hid (R = ⟨true, F, c.t, lnS g F⟩) := (by rw [HF.out, hpf] : R = ⟨true, F, c.t, lnS g F⟩)
 subst hzz
 have hnt : (c.t == 9223372036854775807) = false := by rw [beq_eq_false_iff_ne]; exact hct
 have HRf : Hid (RfR n1 g dd F [] o) := hRf
 have HFm : Hid (∀ x ∈ F, x < n1) := hFm
 clear hpf hct hRf hFm Hcases
 go_upto_region 8 with fail
 have hXS := HXU.out.bel HBUX.out
 have HK : Hid (∀ w', Bel X w' → w'.cell? ⟨Bs, 0, none⟩ = some (.slice a0 n0 c0) ∧ w'.cell? ⟨Bs, 1, none⟩ = some (.slice a1 n1 c1) ∧ w'.cell? ⟨Bs, 2, none⟩ = some (.slice a2 n2 c2) ∧ w'.cell? ⟨Bs, 3, none⟩ = some (.slice (some ⟨Bb, 0, none⟩) n0 n0) ∧ w'.cell? ⟨Bs, 4, none⟩ = some (.slice (some ⟨Be, 0, none⟩) n0 n0) ∧ w'.cell? ⟨Bs, 5, none⟩ = some (.map (some M)) ∧ w'.cell? ⟨Bs, 6, none⟩ = some (.slice (some ⟨Wd, 0, none⟩) n1 n1) ∧ w'.cell? ⟨Bo, 0, none⟩ = some (.int .i64 c.t) ∧ w'.cell? ⟨Bo, 2, none⟩ = some (.int .i64 (nxI o))) := (fun w' h => by
  have a := hXS.bel h
  have b := HXO.out.bel h
  exact ⟨a.cell 0 (by simp), a.cell 1 (by simp), a.cell 2 (by simp), a.cell 3 (by simp), a.cell 4 (by simp), a.cell 5 (by simp), a.cell 6 (by simp), b.cell 0 (by simp), b.cell 2 (by simp)⟩ : ∀ w', Bel X w' → w'.cell? ⟨Bs, 0, none⟩ = some (.slice a0 n0 c0) ∧ w'.cell? ⟨Bs, 1, none⟩ = some (.slice a1 n1 c1) ∧ w'.cell? ⟨Bs, 2, none⟩ = some (.slice a2 n2 c2) ∧ w'.cell? ⟨Bs, 3, none⟩ = some (.slice (some ⟨Bb, 0, none⟩) n0 n0) ∧ w'.cell? ⟨Bs, 4, none⟩ = some (.slice (some ⟨Be, 0, none⟩) n0 n0) ∧ w'.cell? ⟨Bs, 5, none⟩ = some (.map (some M)) ∧ w'.cell? ⟨Bs, 6, none⟩ = some (.slice (some ⟨Wd, 0, none⟩) n1 n1) ∧ w'.cell? ⟨Bo, 0, none⟩ = some (.int .i64 c.t) ∧ w'.cell? ⟨Bo, 2, none⟩ = some (.int .i64 (nxI o)))
 have hR0 : Hid (Blk X (nw + 1) [.bool false, .slice none 0 0, .int .i64 0, .int .i64 0]) := (HXR.out.bel HWU.out).bel HBUX.out
 have hBs : nw + 1 < Bs := by
  have h1 := (HXR.out).lt
  have h2 := HWU.out.out.size
  rw [← HBs.out]
  have h3 : Hid (Bel W w1) := Hb1.out
  have h4 := h3.out.out.size
  omega
 have hBo : nw + 1 < Bo := by
  have h1 := (HXR.out.bel HWU.out).lt
  have h2 := HBL.out.out.size
  rw [← HBo.out]
  omega
 clear hXS z0 z1 z2 zl
 refine wp_region_noPanic ?_
 refine wp_region_held_drew (S := fun w' => w'.cell? ⟨Bs, 0, none⟩ = some (.slice a0 n0 c0) ∧ w'.cell? ⟨Bs, 1, none⟩ = some (.slice a1 n1 c1) ∧ w'.cell? ⟨Bs, 2, none⟩ = some (.slice a2 n2 c2) ∧ w'.cell? ⟨Bs, 3, none⟩ = some (.slice (some ⟨Bb, 0, none⟩) n0 n0) ∧ w'.cell? ⟨Bs, 4, none⟩ = some (.slice (some ⟨Be, 0, none⟩) n0 n0) ∧ w'.cell? ⟨Bs, 5, none⟩ = some (.map (some M)) ∧ w'.cell? ⟨Bs, 6, none⟩ = some (.slice (some ⟨Wd, 0, none⟩) n1 n1) ∧ w'.cell? ⟨Bo, 0, none⟩ = some (.int .i64 c.t) ∧ w'.cell? ⟨Bo, 2, none⟩ = some (.int .i64 (nxI o))) (by kernel_rfl) (HK.out _ (Bel.refl _).drew) (fun hHeld => ?_)
 have hY0 : Bel X X.drew := (Bel.refl _).drew
 generalize X.drew = Y at hHeld hY0 ⊢
 refine tk 0 hHeld ?_; refine tk 1 hHeld ?_; refine tk 2 hHeld ?_; refine tk 3 hHeld ?_; refine tk 5 hHeld ?_; refine tk 6 hHeld ?_; refine tk 7 hHeld ?_
 refine rd1 4 (fun K hK => ?_)
 go_simp
 refine (roadsFrom_any base P ⟨a0, n0, c0, a1, n1, c1, a2, n2, c2, Bb, Be, M, Wd, true, (p : Int)⟩ g lo s.bl dd (p : Int) o F Y (HBH.out.bel (bel_step HbX.out hY0)) HRf.out hFl).mono ?_
 rintro e Y2 ⟨va, vc, rfl, hOR, hb2⟩
 have hY2 := bel_step hY0 hb2
 go_wp2_with fail
 refine hK.out _ _ (HK.out Y2 hY2) ?_; clear hK K hHeld; intro hHeld
 try simp only [Act.put, List.setIfInBounds_toArray, List.set_cons_zero, List.set_cons_succ]
 refine rd1 8 (fun K hK => ?_)
 go_simp
 refine (path_any a0 n0 c0 a1 n1 c1 a2 n2 c2 Bb Be M Wd g b1 F va F.length vc Y.heap.size c.t Y2 HP.out H1.out (HT1.out.bel roadE (bel_step HBUX.out hY2)) hOR rfl HFm.out hFl).mono ?_
 rintro e Y3 ⟨rfl, hb3⟩
 have hY3 := bel_step hY2 hb3
 have hOR3 := own_bel hOR hb3
 go_wp2_with fail
 refine hK.out _ _ (HK.out Y3 hY3) ?_; clear hK K hHeld; intro hHeld
 try simp only [Act.put, List.setIfInBounds_toArray, List.set_cons_zero, List.set_cons_succ]
 have XR3 := hR0.out.bel hY3
 obtain ⟨fl, Hfl⟩ : ∃ n, Hid (F.length = n) := ⟨_, (rfl : F.length = _)⟩
 obtain ⟨ln, Hln⟩ : ∃ n, Hid (lnS g F = n) := ⟨_, (rfl : lnS g F = _)⟩
 rw [Hfl.out, Hln.out]
 rw [Hfl.out] at hOR3
 rw [Hln.out] at HFq
 have XE := blk_st4 XR3 (.bool true) (.slice va fl vc) (.int .i64 c.t) (.int .i64 ln)
 have r0 := XE.cell 0 (by simp)
 have r1 := XE.cell 1 (by simp)
 have r2 := XE.cell 2 (by simp)
 have r3 := XE.cell 3 (by simp)
 simp only [List.getElem_cons_zero, List.getElem_cons_succ] at r0 r1 r2 r3
 have u0 : Y3.cell? ⟨nw + 1, 0, none⟩ = some (.bool false) := XR3.cell 0 (by simp)
 have u1 : Y3.cell? ⟨nw + 1, 1, none⟩ = some (.slice none 0 0) := XR3.cell 1 (by simp)
 have u2 : Y3.cell? ⟨nw + 1, 2, none⟩ = some (.int .i64 0) := XR3.cell 2 (by simp)
 have u3 : Y3.cell? ⟨nw + 1, 3, none⟩ = some (.int .i64 0) := XR3.cell 3 (by simp)
 have f0 := XR3.free 0
 have f1 := XR3.free 1
 have f2 := XR3.free 2
 have f3 := XR3.free 3
 have yl := XR3.lt
 have hBX : Bel w Y3 := bel_step (bel_step HBU.out HBUX.out) hY3
 have HBE : Hid (Bel w (st4 Y3 (nw + 1) (.bool true) (.slice va fl vc) (.int .i64 c.t) (.int .i64 ln))) := bel_st4 hBX hle
 have hYX : w.heap.size ≤ Y.heap.size := Nat.le_trans (bel_step HBU.out HBUX.out).out.size hY0.out.size
 have hYn : nw + 1 < Y.heap.size := Nat.lt_of_lt_of_le hR0.out.lt hY0.out.size
 have HOE : Hid ((st4 Y3 (nw + 1) (.bool true) (.slice va fl vc) (.int .i64 c.t) (.int .i64 ln)).ownsRow w.heap.size 2 1 (.slice va fl vc) fl (intsN F)) := own_lo (own_blk (own_blk (own_blk (own_blk hOR3 hYn) hYn) hYn) hYn) hYX
 have HKE : Hid ((fun w' => w'.cell? ⟨Bs, 0, none⟩ = some (.slice a0 n0 c0) ∧ w'.cell? ⟨Bs, 1, none⟩ = some (.slice a1 n1 c1) ∧ w'.cell? ⟨Bs, 2, none⟩ = some (.slice a2 n2 c2) ∧ w'.cell? ⟨Bs, 3, none⟩ = some (.slice (some ⟨Bb, 0, none⟩) n0 n0) ∧ w'.cell? ⟨Bs, 4, none⟩ = some (.slice (some ⟨Be, 0, none⟩) n0 n0) ∧ w'.cell? ⟨Bs, 5, none⟩ = some (.map (some M)) ∧ w'.cell? ⟨Bs, 6, none⟩ = some (.slice (some ⟨Wd, 0, none⟩) n1 n1) ∧ w'.cell? ⟨Bo, 0, none⟩ = some (.int .i64 c.t) ∧ w'.cell? ⟨Bo, 2, none⟩ = some (.int .i64 (nxI o))) (st4 Y3 (nw + 1) (.bool true) (.slice va fl vc) (.int .i64 c.t) (.int .i64 ln))) := ⟨cell_st4 (by omega) hHeld.1, cell_st4 (by omega) hHeld.2.1, cell_st4 (by omega) hHeld.2.2.1, cell_st4 (by omega) hHeld.2.2.2.1, cell_st4 (by omega) hHeld.2.2.2.2.1, cell_st4 (by omega) hHeld.2.2.2.2.2.1, cell_st4 (by omega) hHeld.2.2.2.2.2.2.1, cell_st4 (by omega) hHeld.2.2.2.2.2.2.2.1, cell_st4 (by omega) hHeld.2.2.2.2.2.2.2.2⟩
 clear XE XR3 hOR3 hOR
 refine rd1 9 (fun K hK => ?_)
 go_simp
 refine hK.out _ _ HKE.out (fun hHeld' => ?_)
 clear hK K hHeld hHeld'
 try simp only [Act.put, List.setIfInBounds_toArray, List.set_cons_zero, List.set_cons_succ]
 refine wpAnyH_done (by kernel_rfl) ?_ _
 refine NoPanic.normal ?_
 obtain ⟨XZ, HXZ⟩ : ∃ X, Hid (X = st4 Y3 (nw + 1) (.bool true) (.slice va fl vc) (.int .i64 c.t) (.int .i64 ln)) := ⟨_, (rfl : st4 Y3 (nw + 1) (.bool true) (.slice va fl vc) (.int .i64 c.t) (.int .i64 ln) = _)⟩
 rw [← HXZ.out] at r0 r1 r2 r3 HBE HOE
 rw [show (((Y3.setCell ⟨nw + 1, 0, none⟩ (.bool true)).setCell ⟨nw + 1, 1, none⟩ (.slice va fl vc)).setCell ⟨nw + 1, 2, none⟩ (.int .i64 c.t)).setCell ⟨nw + 1, 3, none⟩ (.int .i64 ln) = XZ from HXZ.out.symm]
 clear u0 u1 u2 u3 f0 f1 f2 f3 yl
 go_wp2
 exact bodyPost_ret (v := .agg #[.bool true, .slice va fl vc, .int .i64 c.t, .int .i64 ln]) (by simp [results, Tryz.results35, go_sem, r0, r1, r2, r3]) rfl ⟨by rw [HFq.out]; exact ⟨va, vc, by simp only [Hfl.out], by simp only [Hfl.out]; exact HOE.out⟩, HBE.out⟩
end Go.Proofs.YtakedciemnkfhaaGreatDoor

namespace Go.Proofs.YtakedciemnkfhaaGreatDoor
open Go.RowKit Go.Maps

theorem daily1_any (d : RoadD) (w : World) : Calls Tryz.prog 37 #[.agg #[.int .i64 d.fr, .int .i64 d.to, .int .i64 d.way, .int .i64 d.time, .int .i64 d.len, .string d.name]] w fun e w' => e = .returned (.bool true) ∧ Bel w w' := by
 go_enter Tryz.func37, Tryz.ntmps37
 go_wp2
 go_ret
 exact ⟨rfl, by first | exact Bel.refl _ | exact bel_alloc (Bel.refl _) _⟩

theorem slG_q {g : GraphD} {p : Int} (h : GphQ g) : GphQ (slG g p) := by
 unfold GphQ slG at *
 simpa using h

set_option maxRecDepth 100000 in
set_option maxHeartbeats 4000000 in
theorem dailyI_any (v : Value) (g : GraphD) (bs : List Nat) (ar : Option Addr) (m cr : Nat) (l : List Int) (br : List Nat) (si ti st : Int) (w : World) (hT : Winds w) (hV : GphV w v g bs) (hQ : GphQ g) (hI : Ints w ar l br) (hl : l.length = m) (hm : m ≤ 1048576) :
  Calls Tryz.prog 9 #[v, .slice ar m cr, .int .i64 si, .int .i64 ti, .int .i64 st] w fun e w' => PthO w.heap.size w' (dlQ g l si ti st) e ∧ Bel w w' := by
 have HL : Hid (l.length = m) := hl
 clear hl
 have hV' := hV
 obtain ⟨a0, c0, a1, c1, a2, c2, b0, b1, b2, _, rfl, t0, t1, t2⟩ := hV
 obtain ⟨n0, H0⟩ : ∃ n, Hid (g.places.length = n) := ⟨_, (rfl : g.places.length = _)⟩
 obtain ⟨n1, H1⟩ : ∃ n, Hid (g.roads.length = n) := ⟨_, (rfl : g.roads.length = _)⟩
 obtain ⟨n2, H2⟩ : ∃ n, Hid (g.bans.length = n) := ⟨_, (rfl : g.bans.length = _)⟩
 rw [H0.out, H1.out, H2.out] at hV' ⊢
 obtain ⟨W, HW⟩ : ∃ W, Hid (W = (w.alloc (.cells #[.slice a0 n0 c0, .slice a1 n1 c1, .slice a2 n2 c2] 36)).alloc (.cells #[.bool false, .slice none 0 0, .int .i64 0, .int .i64 0] 30)) := ⟨_, (rfl : (w.alloc (.cells #[.slice a0 n0 c0, .slice a1 n1 c1, .slice a2 n2 c2] 36)).alloc (.cells #[.bool false, .slice none 0 0, .int .i64 0, .int .i64 0] 30) = _)⟩
 have hBW : Bel w W := by rw [HW.out]; exact bel_alloc (bel_alloc (Bel.refl _) _) _
 have XG : Blk W w.heap.size [.slice a0 n0 c0, .slice a1 n1 c1, .slice a2 n2 c2] := by rw [HW.out]; exact (Blk.new w [.slice a0 n0 c0, .slice a1 n1 c1, .slice a2 n2 c2] _).bel (bel_alloc (Bel.refl _) _)
 have XR : Blk W (w.heap.size + 1) [.bool false, .slice none 0 0, .int .i64 0, .int .i64 0] := by rw [HW.out]; exact Blk.new1 w _ [.bool false, .slice none 0 0, .int .i64 0, .int .i64 0] _
 obtain ⟨nw, Hnw⟩ : ∃ n, Hid (w.heap.size = n) := ⟨_, (rfl : w.heap.size = _)⟩
 rw [Hnw.out] at XG XR
 have hle : w.heap.size ≤ nw + 1 := by rw [Hnw.out]; omega
 obtain ⟨R, HR⟩ : ∃ R, Hid (dlQ g l si ti st = R) := ⟨_, (rfl : dlQ g l si ti st = _)⟩
 rw [HR.out]
 have HXR : Hid (Blk W (nw + 1) [.bool false, .slice none 0 0, .int .i64 0, .int .i64 0]) := XR
 clear XR
 have x0 : W.cell? ⟨nw, 0, none⟩ = some (.slice a0 n0 c0) := XG.cell 0 (by simp)
 have x1 : W.cell? ⟨nw, 1, none⟩ = some (.slice a1 n1 c1) := XG.cell 1 (by simp)
 have x2 : W.cell? ⟨nw, 2, none⟩ = some (.slice a2 n2 c2) := XG.cell 2 (by simp)
 have xl := XG.lt
 go_enter Tryz.func9, Tryz.ntmps9
 go_upto_region 1 with fail
 rw [← HW.out, Hnw.out]
 go_wp2_with fail
 refine (graphOk_any _ g bs _ (hV'.bel hBW) hQ).mono ?_
 rintro e w1 ⟨rfl, hb1⟩
 have hB1 := bel_step hBW hb1
 by_cases hP : graphP g
 rotate_left
 ·have HF : Hid (R = ⟨false, [], 0, 0⟩) := (by rw [← HR.out]; exact dlQ_no (fun h => hP h.1) : R = ⟨false, [], 0, 0⟩)
  rw [bP_false hP]
  have XR0 : Blk w1 (nw + 1) [.bool false, .slice none 0 0, .int .i64 0, .int .i64 0] := HXR.out.bel (hb1)
  have u0 : w1.cell? ⟨nw + 1, 0, none⟩ = some (.bool false) := XR0.cell 0 (by simp)
  have u1 : w1.cell? ⟨nw + 1, 1, none⟩ = some (.slice none 0 0) := XR0.cell 1 (by simp)
  have u2 : w1.cell? ⟨nw + 1, 2, none⟩ = some (.int .i64 0) := XR0.cell 2 (by simp)
  have u3 : w1.cell? ⟨nw + 1, 3, none⟩ = some (.int .i64 0) := XR0.cell 3 (by simp)
  have f0 := XR0.free 0
  have f1 := XR0.free 1
  have f2 := XR0.free 2
  have f3 := XR0.free 3
  have ul := XR0.lt
  have XE := blk_st4 XR0 (.bool false) (.slice none 0 0) (.int .i64 0) (.int .i64 0)
  have r0 := XE.cell 0 (by simp)
  have r1 := XE.cell 1 (by simp)
  have r2 := XE.cell 2 (by simp)
  have r3 := XE.cell 3 (by simp)
  simp only [List.getElem_cons_zero, List.getElem_cons_succ] at r0 r1 r2 r3
  have HBE : Hid (Bel w (st4 w1 (nw + 1) (.bool false) (.slice none 0 0) (.int .i64 0) (.int .i64 0))) := bel_st4 (hB1) hle
  obtain ⟨XZ, HXZ⟩ : ∃ T, Hid (T = st4 w1 (nw + 1) (.bool false) (.slice none 0 0) (.int .i64 0) (.int .i64 0)) := ⟨_, (rfl : st4 w1 (nw + 1) (.bool false) (.slice none 0 0) (.int .i64 0) (.int .i64 0) = _)⟩
  rw [← HXZ.out] at r0 r1 r2 r3 HBE
  clear XE XR0
  go_wp2
  rw [show (((w1.setCell ⟨nw + 1, 0, none⟩ (.bool false)).setCell ⟨nw + 1, 1, none⟩ (.slice none 0 0)).setCell ⟨nw + 1, 2, none⟩ (.int .i64 0)).setCell ⟨nw + 1, 3, none⟩ (.int .i64 0) = XZ from HXZ.out.symm]
  exact bodyPost_ret (v := .agg #[.bool false, .slice none 0 0, .int .i64 0, .int .i64 0]) (by simp [results, Tryz.results9, go_sem, r0, r1, r2, r3]) rfl ⟨by rw [HF.out]; exact PthO.zero _ _, HBE.out⟩
 rw [bP_true hP]
 have HP : Hid (graphP g) := hP
 clear hP
 go_wp2_with fail
 refine (dayOk_any _ _ _ l br _ (hI.bel intE hB1) HL.out hm).mono ?_
 rintro e w' ⟨rfl, hw'⟩
 obtain rfl := hw'.symm
 by_cases hD : l.length = 24 ∧ hrP l
 rotate_left
 ·have HF : Hid (R = ⟨false, [], 0, 0⟩) := (by rw [← HR.out]; exact dlQ_no (fun h => hD h.2.1) : R = ⟨false, [], 0, 0⟩)
  rw [bP_false hD]
  have XR0 : Blk w1 (nw + 1) [.bool false, .slice none 0 0, .int .i64 0, .int .i64 0] := HXR.out.bel (hb1)
  have u0 : w1.cell? ⟨nw + 1, 0, none⟩ = some (.bool false) := XR0.cell 0 (by simp)
  have u1 : w1.cell? ⟨nw + 1, 1, none⟩ = some (.slice none 0 0) := XR0.cell 1 (by simp)
  have u2 : w1.cell? ⟨nw + 1, 2, none⟩ = some (.int .i64 0) := XR0.cell 2 (by simp)
  have u3 : w1.cell? ⟨nw + 1, 3, none⟩ = some (.int .i64 0) := XR0.cell 3 (by simp)
  have f0 := XR0.free 0
  have f1 := XR0.free 1
  have f2 := XR0.free 2
  have f3 := XR0.free 3
  have ul := XR0.lt
  have XE := blk_st4 XR0 (.bool false) (.slice none 0 0) (.int .i64 0) (.int .i64 0)
  have r0 := XE.cell 0 (by simp)
  have r1 := XE.cell 1 (by simp)
  have r2 := XE.cell 2 (by simp)
  have r3 := XE.cell 3 (by simp)
  simp only [List.getElem_cons_zero, List.getElem_cons_succ] at r0 r1 r2 r3
  have HBE : Hid (Bel w (st4 w1 (nw + 1) (.bool false) (.slice none 0 0) (.int .i64 0) (.int .i64 0))) := bel_st4 (hB1) hle
  obtain ⟨XZ, HXZ⟩ : ∃ T, Hid (T = st4 w1 (nw + 1) (.bool false) (.slice none 0 0) (.int .i64 0) (.int .i64 0)) := ⟨_, (rfl : st4 w1 (nw + 1) (.bool false) (.slice none 0 0) (.int .i64 0) (.int .i64 0) = _)⟩
  rw [← HXZ.out] at r0 r1 r2 r3 HBE
  clear XE XR0
  go_wp2
  rw [show (((w1.setCell ⟨nw + 1, 0, none⟩ (.bool false)).setCell ⟨nw + 1, 1, none⟩ (.slice none 0 0)).setCell ⟨nw + 1, 2, none⟩ (.int .i64 0)).setCell ⟨nw + 1, 3, none⟩ (.int .i64 0) = XZ from HXZ.out.symm]
  exact bodyPost_ret (v := .agg #[.bool false, .slice none 0 0, .int .i64 0, .int .i64 0]) (by simp [results, Tryz.results9, go_sem, r0, r1, r2, r3]) rfl ⟨by rw [HF.out]; exact PthO.zero _ _, HBE.out⟩
 rw [bP_true hD]
 have HD : Hid (l.length = 24 ∧ hrP l) := hD
 have e24 : m = 24 := by rw [← HL.out]; exact hD.1
 clear hD
 by_cases hs0 : 0 ≤ st
 rotate_left
 ·have HF : Hid (R = ⟨false, [], 0, 0⟩) := (by rw [← HR.out]; exact dlQ_no (fun h => hs0 h.2.2.1) : R = ⟨false, [], 0, 0⟩)
  have hsd : decide (st < 0) = true := by simp; omega
  have hst : st < 0 := by omega
  have XR0 : Blk w1 (nw + 1) [.bool false, .slice none 0 0, .int .i64 0, .int .i64 0] := HXR.out.bel (hb1)
  have u0 : w1.cell? ⟨nw + 1, 0, none⟩ = some (.bool false) := XR0.cell 0 (by simp)
  have u1 : w1.cell? ⟨nw + 1, 1, none⟩ = some (.slice none 0 0) := XR0.cell 1 (by simp)
  have u2 : w1.cell? ⟨nw + 1, 2, none⟩ = some (.int .i64 0) := XR0.cell 2 (by simp)
  have u3 : w1.cell? ⟨nw + 1, 3, none⟩ = some (.int .i64 0) := XR0.cell 3 (by simp)
  have f0 := XR0.free 0
  have f1 := XR0.free 1
  have f2 := XR0.free 2
  have f3 := XR0.free 3
  have ul := XR0.lt
  have XE := blk_st4 XR0 (.bool false) (.slice none 0 0) (.int .i64 0) (.int .i64 0)
  have r0 := XE.cell 0 (by simp)
  have r1 := XE.cell 1 (by simp)
  have r2 := XE.cell 2 (by simp)
  have r3 := XE.cell 3 (by simp)
  simp only [List.getElem_cons_zero, List.getElem_cons_succ] at r0 r1 r2 r3
  have HBE : Hid (Bel w (st4 w1 (nw + 1) (.bool false) (.slice none 0 0) (.int .i64 0) (.int .i64 0))) := bel_st4 (hB1) hle
  obtain ⟨XZ, HXZ⟩ : ∃ T, Hid (T = st4 w1 (nw + 1) (.bool false) (.slice none 0 0) (.int .i64 0) (.int .i64 0)) := ⟨_, (rfl : st4 w1 (nw + 1) (.bool false) (.slice none 0 0) (.int .i64 0) (.int .i64 0) = _)⟩
  rw [← HXZ.out] at r0 r1 r2 r3 HBE
  clear XE XR0
  go_wp2
  rw [show (((w1.setCell ⟨nw + 1, 0, none⟩ (.bool false)).setCell ⟨nw + 1, 1, none⟩ (.slice none 0 0)).setCell ⟨nw + 1, 2, none⟩ (.int .i64 0)).setCell ⟨nw + 1, 3, none⟩ (.int .i64 0) = XZ from HXZ.out.symm]
  exact bodyPost_ret (v := .agg #[.bool false, .slice none 0 0, .int .i64 0, .int .i64 0]) (by simp [results, Tryz.results9, go_sem, r0, r1, r2, r3]) rfl ⟨by rw [HF.out]; exact PthO.zero _ _, HBE.out⟩
 have hsd : decide (st < 0) = false := by simp; omega
 have hsn : ¬ st < 0 := by omega
 by_cases hs1 : st < 86400
 rotate_left
 ·have HF : Hid (R = ⟨false, [], 0, 0⟩) := (by rw [← HR.out]; exact dlQ_no (fun h => hs1 h.2.2.2) : R = ⟨false, [], 0, 0⟩)
  have hsd1 : decide ((86400 : Int) ≤ st) = true := by simp; omega
  have hst : (86400 : Int) ≤ st := by omega
  have XR0 : Blk w1 (nw + 1) [.bool false, .slice none 0 0, .int .i64 0, .int .i64 0] := HXR.out.bel (hb1)
  have u0 : w1.cell? ⟨nw + 1, 0, none⟩ = some (.bool false) := XR0.cell 0 (by simp)
  have u1 : w1.cell? ⟨nw + 1, 1, none⟩ = some (.slice none 0 0) := XR0.cell 1 (by simp)
  have u2 : w1.cell? ⟨nw + 1, 2, none⟩ = some (.int .i64 0) := XR0.cell 2 (by simp)
  have u3 : w1.cell? ⟨nw + 1, 3, none⟩ = some (.int .i64 0) := XR0.cell 3 (by simp)
  have f0 := XR0.free 0
  have f1 := XR0.free 1
  have f2 := XR0.free 2
  have f3 := XR0.free 3
  have ul := XR0.lt
  have XE := blk_st4 XR0 (.bool false) (.slice none 0 0) (.int .i64 0) (.int .i64 0)
  have r0 := XE.cell 0 (by simp)
  have r1 := XE.cell 1 (by simp)
  have r2 := XE.cell 2 (by simp)
  have r3 := XE.cell 3 (by simp)
  simp only [List.getElem_cons_zero, List.getElem_cons_succ] at r0 r1 r2 r3
  have HBE : Hid (Bel w (st4 w1 (nw + 1) (.bool false) (.slice none 0 0) (.int .i64 0) (.int .i64 0))) := bel_st4 (hB1) hle
  obtain ⟨XZ, HXZ⟩ : ∃ T, Hid (T = st4 w1 (nw + 1) (.bool false) (.slice none 0 0) (.int .i64 0) (.int .i64 0)) := ⟨_, (rfl : st4 w1 (nw + 1) (.bool false) (.slice none 0 0) (.int .i64 0) (.int .i64 0) = _)⟩
  rw [← HXZ.out] at r0 r1 r2 r3 HBE
  clear XE XR0
  go_wp2
  rw [show (((w1.setCell ⟨nw + 1, 0, none⟩ (.bool false)).setCell ⟨nw + 1, 1, none⟩ (.slice none 0 0)).setCell ⟨nw + 1, 2, none⟩ (.int .i64 0)).setCell ⟨nw + 1, 3, none⟩ (.int .i64 0) = XZ from HXZ.out.symm]
  exact bodyPost_ret (v := .agg #[.bool false, .slice none 0 0, .int .i64 0, .int .i64 0]) (by simp [results, Tryz.results9, go_sem, r0, r1, r2, r3]) rfl ⟨by rw [HF.out]; exact PthO.zero _ _, HBE.out⟩
 have hsd1 : decide ((86400 : Int) ≤ st) = false := by simp; omega
 have hsn1 : ¬ (86400 : Int) ≤ st := by omega
 obtain ⟨k, Hk⟩ : ∃ k, Hid ((st / 3600).toNat = k) := ⟨_, (rfl : (st / 3600).toNat = _)⟩
 have hk24 : k < 24 := by rw [← Hk.out]; omega
 have hkl : k < l.length := by rw [HD.out.1]; exact hk24
 obtain ⟨p, Hp⟩ : ∃ p, Hid (l[k] = p) := ⟨_, (rfl : l[k] = _)⟩
 have HF : Hid (R = bpQ (slG g p) si ti) := (by rw [← HR.out, dlQ_at HP.out HD.out.1 HD.out.2 ⟨hs0, hs1⟩ hkl Hk.out, Hp.out] : R = bpQ (slG g p) si ti)
 have hp : 1 ≤ p ∧ p ≤ 10000 := by rw [← Hp.out]; exact HD.out.2 k hkl
 obtain ⟨b, off, f, rfl, hb, hx⟩ := hI.out hkl
 have hxk := hx k hkl
 rw [Hp.out] at hxk
 have ck : w.cell? ⟨b, off + k, none⟩ = some (.int .i64 p) := by simpa using hxk.2.2
 clear hx hxk
 have hq : Int.tdiv st 3600 = (k : Int) := by rw [Int.tdiv_eq_ediv_of_nonneg hs0, ← Hk.out]; omega
 have hqw : IntKind.i64.wrap (Int.tdiv st 3600) = (k : Int) := by rw [hq, IntKind.wrap_i64]; omega
 have hkw : IntKind.i64.wrap (k : Int) = (k : Int) := by rw [IntKind.wrap_i64]; omega
 have hkI : (k : Int) < (m : Int) := by omega
 have hkJ : (k : Int) < 24 := by omega
 have hk0 : (0 : Int) ≤ (k : Int) := by omega
 have hkm : k < m := by omega
 have c1k : w1.cell? ⟨b, off + k, none⟩ = some (.int .i64 p) := bel_cellM hB1 hb ck
 have XG1 := XG.bel hb1
 have HK : Hid (∀ w', Bel w1 w' → (fun w' => w'.cell? ⟨nw, 0, none⟩ = some (.slice a0 n0 c0) ∧ w'.cell? ⟨nw, 1, none⟩ = some (.slice a1 n1 c1) ∧ w'.cell? ⟨nw, 2, none⟩ = some (.slice a2 n2 c2) ∧ w'.cell? ⟨b, off + k, none⟩ = some (.int .i64 p)) w') := fun w' h => ⟨(XG1.bel h).cell 0 (by simp), (XG1.bel h).cell 1 (by simp), (XG1.bel h).cell 2 (by simp), bel_cellM h (bel_lt hB1 hb) c1k⟩
 clear x0 x1 x2 xl
 go_upto_region 3 with fail
 refine wp_region_noPanic ?_
 refine wp_region_held_drew (S := (fun w' => w'.cell? ⟨nw, 0, none⟩ = some (.slice a0 n0 c0) ∧ w'.cell? ⟨nw, 1, none⟩ = some (.slice a1 n1 c1) ∧ w'.cell? ⟨nw, 2, none⟩ = some (.slice a2 n2 c2) ∧ w'.cell? ⟨b, off + k, none⟩ = some (.int .i64 p))) (by kernel_rfl) (HK.out _ (Bel.refl _).drew) (fun hHeld => ?_)
 have HY0 : Hid (Bel w1 w1.drew) := (Bel.refl _).drew
 generalize w1.drew = Y at hHeld HY0 ⊢
 refine tk 0 hHeld ?_; refine tk 1 hHeld ?_; refine tk 2 hHeld ?_; refine tk 3 hHeld ?_; refine tk 4 hHeld ?_; refine tk 5 hHeld ?_
 refine tk 7 hHeld ?_; refine tk 8 hHeld ?_
 have hBY := bel_step hB1 HY0.out
 have cS := slowed_any (fun _ => true) a0 n0 c0 a1 n1 c1 a2 n2 c2 g b0 b1 b2 p Y (t0.bel spotE hBY) (t1.bel roadE hBY) (t2.bel banE hBY) H0.out H1.out H2.out HP.out hp (fun d w' _ _ => daily1_any d w')
 refine rd1 6 (fun K hK => ?_)
 go_simp
 refine cS.mono ?_
 rintro e w3 ⟨v3, b3, rfl, V3, _, hb3⟩
 have hY3 := bel_step HY0.out hb3
 go_wp2_with fail
 refine hK.out _ _ (HK.out w3 hY3) (fun hHeld' => ?_)
 clear hK K hHeld cS
 have hHeld := hHeld'
 clear hHeld'
 try simp only [Act.put, List.setIfInBounds_toArray, List.set_cons_zero, List.set_cons_succ]
 have cB := bestPath_any v3 (slG g p) b3 si ti w3 (hT.bel (bel_step hB1 hY3)) V3 (slG_q hQ)
 refine rd1 9 (fun K hK => ?_)
 go_simp
 refine cB.mono ?_
 rintro e w4 ⟨hO, hb4⟩
 rw [← HF.out] at hO
 obtain ⟨va, vc, rfl, hOw⟩ := hO.out
 clear hO
 have hY4 := bel_step hY3 hb4
 go_wp2_with fail
 refine hK.out _ _ (HK.out w4 hY4) (fun hHeld' => ?_)
 clear hK K hHeld cB
 have hHeld := hHeld'
 clear hHeld'
 try simp only [Act.put, List.setIfInBounds_toArray, List.set_cons_zero, List.set_cons_succ]
 obtain ⟨ok, fs, tm, ln⟩ := R
 dsimp only at hOw ⊢
 obtain ⟨fl, Hfl⟩ : ∃ n, Hid (fs.length = n) := ⟨_, (rfl : fs.length = _)⟩
 rw [Hfl.out] at hOw ⊢
 have XR3 := HXR.out.bel (bel_step hb1 hY4)
 have XE := blk_st4 XR3 (.bool ok) (.slice va fl vc) (.int .i64 tm) (.int .i64 ln)
 have r0 := XE.cell 0 (by simp)
 have r1 := XE.cell 1 (by simp)
 have r2 := XE.cell 2 (by simp)
 have r3 := XE.cell 3 (by simp)
 simp only [List.getElem_cons_zero, List.getElem_cons_succ] at r0 r1 r2 r3
 have u0 : w4.cell? ⟨nw + 1, 0, none⟩ = some (.bool false) := XR3.cell 0 (by simp)
 have u1 : w4.cell? ⟨nw + 1, 1, none⟩ = some (.slice none 0 0) := XR3.cell 1 (by simp)
 have u2 : w4.cell? ⟨nw + 1, 2, none⟩ = some (.int .i64 0) := XR3.cell 2 (by simp)
 have u3 : w4.cell? ⟨nw + 1, 3, none⟩ = some (.int .i64 0) := XR3.cell 3 (by simp)
 have f0 := XR3.free 0
 have f1 := XR3.free 1
 have f2 := XR3.free 2
 have f3 := XR3.free 3
 have yl := XR3.lt
 have HBE : Hid (Bel w (st4 w4 (nw + 1) (.bool ok) (.slice va fl vc) (.int .i64 tm) (.int .i64 ln))) := bel_st4 (bel_step hB1 hY4) hle
 have h13 := (bel_step hB1 hY3).out.size
 have hYn : nw + 1 < w3.heap.size := (HXR.out.bel (bel_step hb1 hY3)).lt
 have HOE : Hid ((st4 w4 (nw + 1) (.bool ok) (.slice va fl vc) (.int .i64 tm) (.int .i64 ln)).ownsRow w.heap.size 2 1 (.slice va fl vc) fl (intsN fs)) := own_lo (own_blk (own_blk (own_blk (own_blk hOw hYn) hYn) hYn) hYn) h13
 have hbl : nw + 1 ≠ b := fun e => by have := hb; have := Hnw.out; omega
 have HKE : Hid ((fun w' => w'.cell? ⟨nw, 0, none⟩ = some (.slice a0 n0 c0) ∧ w'.cell? ⟨nw, 1, none⟩ = some (.slice a1 n1 c1) ∧ w'.cell? ⟨nw, 2, none⟩ = some (.slice a2 n2 c2) ∧ w'.cell? ⟨b, off + k, none⟩ = some (.int .i64 p)) (st4 w4 (nw + 1) (.bool ok) (.slice va fl vc) (.int .i64 tm) (.int .i64 ln))) := ⟨cell_st4 (by omega) hHeld.1, cell_st4 (by omega) hHeld.2.1, cell_st4 (by omega) hHeld.2.2.1, cell_st4 hbl hHeld.2.2.2⟩
 clear XE XR3 hOw
 refine rd1 10 (fun K hK => ?_)
 go_simp
 refine hK.out _ _ HKE.out (fun hHeld' => ?_)
 clear hK K hHeld hHeld'
 try simp only [Act.put, List.setIfInBounds_toArray, List.set_cons_zero, List.set_cons_succ]
 refine wpAnyH_done (by kernel_rfl) ?_ _
 refine NoPanic.normal ?_
 obtain ⟨XZ, HXZ⟩ : ∃ T, Hid (T = st4 w4 (nw + 1) (.bool ok) (.slice va fl vc) (.int .i64 tm) (.int .i64 ln)) := ⟨_, (rfl : st4 w4 (nw + 1) (.bool ok) (.slice va fl vc) (.int .i64 tm) (.int .i64 ln) = _)⟩
 rw [← HXZ.out] at r0 r1 r2 r3 HBE HOE
 rw [show (((w4.setCell ⟨nw + 1, 0, none⟩ (.bool ok)).setCell ⟨nw + 1, 1, none⟩ (.slice va fl vc)).setCell ⟨nw + 1, 2, none⟩ (.int .i64 tm)).setCell ⟨nw + 1, 3, none⟩ (.int .i64 ln) = XZ from HXZ.out.symm]
 clear u0 u1 u2 u3 f0 f1 f2 f3 yl
 go_wp2
 exact bodyPost_ret (v := .agg #[.bool ok, .slice va fl vc, .int .i64 tm, .int .i64 ln]) (by simp [results, Tryz.results9, go_sem, r0, r1, r2, r3]) rfl ⟨⟨va, vc, by rw [Hfl.out], by rw [Hfl.out]; exact HOE.out⟩, HBE.out⟩
end Go.Proofs.YtakedciemnkfhaaGreatDoor
