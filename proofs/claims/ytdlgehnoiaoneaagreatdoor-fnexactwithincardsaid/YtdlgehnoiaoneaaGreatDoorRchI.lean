/-
  Reach in the program: contracts.
-/
import Derived.Test.YtdlgehnoiaoneaaGreatDoorGX
import Derived.Test.YtdlgehnoiaoneaaGreatDoorToldI
import Derived.Test.YtdlgehnoiaoneaaGreatDoorRtM
import Derived.Test.YtdlgehnoiaoneaaGreatDoorGA
namespace Go.Proofs.YtdlgehnoiaoneaaGreatDoor
open Go.RowKit Go.Maps

theorem leg_told {n p q : Nat} {g : GraphD} {d : Nat → Option Cst} {bl : List Cst} (hl : g.roads.length = n) (hc : ∀ x, x < n → cAt bl x = (d x).getD ⟨noT, 0⟩) (hd : ∀ x c, d x = some c → 0 ≤ c.t ∧ c.t < noT ∧ 0 ≤ c.c) : tldC (lgF bl false g (p : Int) n q).1 = rcV n g d (p : Int) q := by
 unfold rcV
 by_cases e : q = p
 ·subst e
  rw [if_pos rfl, ← hl, lgF_start (fun x hx => ?_) _ (Nat.le_refl _)]
  ·rfl
  ·rw [hc x (by omega)]
   cases h : d x with
   | none => exact ⟨by decide, by decide⟩
   | some c => have := hd x c h; exact ⟨this.1, this.2.2⟩
 ·have hne : (q : Int) ≠ (p : Int) := by omega
  have hlg : lgF bl false g (p : Int) n q = lgO (miF d (bgF g.roads n false q)) := by
   rw [← hl]
   exact lgF_other hne (fun x hx => hc x (by omega)) (fun x c h => (hd x c h).2.1) _ (Nat.le_refl _)
  rw [if_neg hne, hlg]
  cases hm : miF d (bgF g.roads n false q) with
  | none => rfl
  | some b =>
   have h := (hd _ _ (miF_mem (x := b.1) (c := b.2) hm).2).2.1
   show tldC b.2 = b.2.t
   unfold tldC
   rw [if_neg (by omega)]
theorem SJ.cbd {S : SrS} {g : GraphD} {st : Int} {D : List Nat} {s : Sig} {Ls : List (List Nat)} (h : SJ S g st D s Ls) (hN : S.n1 ≤ 8000) : ∀ x c, dO S.n1 s.bl x = some c → 0 ≤ c.t ∧ c.t < noT ∧ 0 ≤ c.c := fun x c hd => by
 have h1 := h.cb x c hd
 have h2 := h.dl
 refine ⟨by omega, ?_, by omega⟩
 show c.t < 9223372036854775807
 omega

set_option maxHeartbeats 1000000 in
theorem searchOn_any (S : SrS) (lo nb : Nat) (V : Bool → Nat → Value) (g : GraphD) (b1 : List Nat) (p : Nat) (w : World) (hT : Tabs lo w (fun t => cond t S.Bb S.Be) S.n0 V (bgF g.roads S.n1)) (hC : Stc w.heap.size S g b1 nb w) (hn0 : g.places.length = S.n0) (hp : p < S.n0) (hst : S.start = (p : Int)) (hb : S.back = false) :
  Calls Tryz.prog 56 #[.agg #[.slice S.a0 S.n0 S.c0, .slice S.a1 S.n1 S.c1, .slice S.a2 S.n2 S.c2, .slice (some ⟨S.Bb, 0, none⟩) S.n0 S.n0, .slice (some ⟨S.Be, 0, none⟩) S.n0 S.n0, .map (some S.M), .slice (some ⟨S.Wd, 0, none⟩) S.n1 S.n1], .int .i64 S.start] w fun e w' => BegOut w S g e w' := by
 obtain ⟨W, HW⟩ : ∃ W, Hid (W = w.alloc (.cells #[.slice S.a0 S.n0 S.c0, .slice S.a1 S.n1 S.c1, .slice S.a2 S.n2 S.c2, .slice (some ⟨S.Bb, 0, none⟩) S.n0 S.n0, .slice (some ⟨S.Be, 0, none⟩) S.n0 S.n0, .map (some S.M), .slice (some ⟨S.Wd, 0, none⟩) S.n1 S.n1] 91)) := ⟨_, (rfl : w.alloc (.cells #[.slice S.a0 S.n0 S.c0, .slice S.a1 S.n1 S.c1, .slice S.a2 S.n2 S.c2, .slice (some ⟨S.Bb, 0, none⟩) S.n0 S.n0, .slice (some ⟨S.Be, 0, none⟩) S.n0 S.n0, .map (some S.M), .slice (some ⟨S.Wd, 0, none⟩) S.n1 S.n1] 91) = _)⟩
 have hBW : Bel w W := by rw [HW.out]; exact bel_alloc (Bel.refl _) _
 have HBW : Hid (Bel w W) := hBW
 have XW : Blk W w.heap.size [.slice S.a0 S.n0 S.c0, .slice S.a1 S.n1 S.c1, .slice S.a2 S.n2 S.c2, .slice (some ⟨S.Bb, 0, none⟩) S.n0 S.n0, .slice (some ⟨S.Be, 0, none⟩) S.n0 S.n0, .map (some S.M), .slice (some ⟨S.Wd, 0, none⟩) S.n1 S.n1] := by rw [HW.out]; exact Blk.new w [.slice S.a0 S.n0 S.c0, .slice S.a1 S.n1 S.c1, .slice S.a2 S.n2 S.c2, .slice (some ⟨S.Bb, 0, none⟩) S.n0 S.n0, .slice (some ⟨S.Be, 0, none⟩) S.n0 S.n0, .map (some S.M), .slice (some ⟨S.Wd, 0, none⟩) S.n1 S.n1] _
 have u0 : W.cell? ⟨w.heap.size, 0, none⟩ = some (.slice S.a0 S.n0 S.c0) := XW.cell 0 (by simp)
 have u1 : W.cell? ⟨w.heap.size, 1, none⟩ = some (.slice S.a1 S.n1 S.c1) := XW.cell 1 (by simp)
 have u2 : W.cell? ⟨w.heap.size, 2, none⟩ = some (.slice S.a2 S.n2 S.c2) := XW.cell 2 (by simp)
 have u3 : W.cell? ⟨w.heap.size, 3, none⟩ = some (.slice (some ⟨S.Bb, 0, none⟩) S.n0 S.n0) := XW.cell 3 (by simp)
 have u4 : W.cell? ⟨w.heap.size, 4, none⟩ = some (.slice (some ⟨S.Be, 0, none⟩) S.n0 S.n0) := XW.cell 4 (by simp)
 have u5 : W.cell? ⟨w.heap.size, 5, none⟩ = some (.map (some S.M)) := XW.cell 5 (by simp)
 have u6 : W.cell? ⟨w.heap.size, 6, none⟩ = some (.slice (some ⟨S.Wd, 0, none⟩) S.n1 S.n1) := XW.cell 6 (by simp)
 have ul := XW.lt
 have cB := begin_any S lo nb V g b1 p S.Bb W (hT.bel hBW) ((hC.bel hBW).mono hBW.out.size) hn0 hp hst (by rw [hb]; rfl)
 rw [hb] at cB
 have HcB : Hid (Calls Tryz.prog 70 #[.agg #[.slice S.a0 S.n0 S.c0, .slice S.a1 S.n1 S.c1, .slice S.a2 S.n2 S.c2, .slice (some ⟨S.Bb, 0, none⟩) S.n0 S.n0, .slice (some ⟨S.Be, 0, none⟩) S.n0 S.n0, .map (some S.M), .slice (some ⟨S.Wd, 0, none⟩) S.n1 S.n1], .bool false, .slice (some ⟨S.Bb, 0, none⟩) S.n0 S.n0, .int .i64 S.start] W fun e w' => BegOut W S g e w') := cB
 clear cB hT hC hst hb hBW XW hn0 hp
 go_enter Tryz.func56, Tryz.ntmps56
 go_wp2_with fail
 rw [← HW.out]
 refine HcB.out.mono ?_
 rintro e w2 ⟨⟨base, P, vl, s, Ls, D, rfl, h1, h2, h3, h4, h5⟩⟩
 have HE : Hid (BegOut w S g (.returned (.pointer (some ⟨P, 0, none⟩))) w2) := ⟨base, P, vl, s, Ls, D, rfl, h1, h2, h3, Nat.le_trans HBW.out.out.size h4, bel_step HBW.out h5⟩
 clear h1 h2 h3 h4 h5 u0 u1 u2 u3 u4 u5 u6 HcB
 go_wp2
 go_ret
 exact HE.out

set_option maxRecDepth 100000 in
set_option maxHeartbeats 4000000 in
theorem timesFrom_any (S : SrS) (lo nb : Nat) (V : Bool → Nat → Value) (g : GraphD) (b1 : List Nat) (p : Nat) (w : World) (hT : Tabs lo w (fun t => cond t S.Bb S.Be) S.n0 V (bgF g.roads S.n1)) (hC : Stc w.heap.size S g b1 nb w) (hn0 : g.places.length = S.n0) (hp : p < S.n0) (hst : S.start = (p : Int)) (hb : S.back = false) :
  Calls Tryz.prog 43 #[.agg #[.slice S.a0 S.n0 S.c0, .slice S.a1 S.n1 S.c1, .slice S.a2 S.n2 S.c2, .slice (some ⟨S.Bb, 0, none⟩) S.n0 S.n0, .slice (some ⟨S.Be, 0, none⟩) S.n0 S.n0, .map (some S.M), .slice (some ⟨S.Wd, 0, none⟩) S.n1 S.n1], .int .i64 S.start] w fun e w' => ∃ v', e = .returned v' ∧ OwnI w.heap.size w' v' (rcL S.n0 S.n1 g (lstD S.n1 false g (p : Int)) (p : Int)) ∧ Bel w w' := by
 have hl := hC.len
 have hg := hC.ok
 have m1 : S.n1 ≤ 8000 := by rw [← hl]; exact hg.1.2.1
 have m0 : S.n0 ≤ 5000 := by rw [← hn0]; exact hg.1.1
 obtain ⟨W, HW⟩ : ∃ W, Hid (W = w.alloc (.cells #[.slice S.a0 S.n0 S.c0, .slice S.a1 S.n1 S.c1, .slice S.a2 S.n2 S.c2, .slice (some ⟨S.Bb, 0, none⟩) S.n0 S.n0, .slice (some ⟨S.Be, 0, none⟩) S.n0 S.n0, .map (some S.M), .slice (some ⟨S.Wd, 0, none⟩) S.n1 S.n1] 91)) := ⟨_, (rfl : w.alloc (.cells #[.slice S.a0 S.n0 S.c0, .slice S.a1 S.n1 S.c1, .slice S.a2 S.n2 S.c2, .slice (some ⟨S.Bb, 0, none⟩) S.n0 S.n0, .slice (some ⟨S.Be, 0, none⟩) S.n0 S.n0, .map (some S.M), .slice (some ⟨S.Wd, 0, none⟩) S.n1 S.n1] 91) = _)⟩
 have hBW : Bel w W := by rw [HW.out]; exact bel_alloc (Bel.refl _) _
 have XW : Blk W w.heap.size [.slice S.a0 S.n0 S.c0, .slice S.a1 S.n1 S.c1, .slice S.a2 S.n2 S.c2, .slice (some ⟨S.Bb, 0, none⟩) S.n0 S.n0, .slice (some ⟨S.Be, 0, none⟩) S.n0 S.n0, .map (some S.M), .slice (some ⟨S.Wd, 0, none⟩) S.n1 S.n1] := by rw [HW.out]; exact Blk.new w [.slice S.a0 S.n0 S.c0, .slice S.a1 S.n1 S.c1, .slice S.a2 S.n2 S.c2, .slice (some ⟨S.Bb, 0, none⟩) S.n0 S.n0, .slice (some ⟨S.Be, 0, none⟩) S.n0 S.n0, .map (some S.M), .slice (some ⟨S.Wd, 0, none⟩) S.n1 S.n1] _
 obtain ⟨nw, Hnw⟩ : ∃ k, Hid (w.heap.size = k) := ⟨_, (rfl : w.heap.size = _)⟩
 obtain ⟨n0, H0⟩ : ∃ n, Hid (S.n0 = n) := ⟨_, (rfl : S.n0 = _)⟩
 obtain ⟨n1, H1⟩ : ∃ n, Hid (S.n1 = n) := ⟨_, (rfl : S.n1 = _)⟩
 have hmk : ∀ w : World, (Instr.makeSlice 46 (.int .i64 n0) (.int .i64 n0)).run Tryz.prog w = .ok (.slice (some ⟨w.heap.size, 0, none⟩) n0 n0) (w.alloc (.cells (madeCells #[.int .i64 0] n0) 2)) := fun w => by
  obtain ⟨i0, hi, hz0, hz1, hz2⟩ := info_parts infoW
  rw [H0.out] at m0
  have := run_make (P := Tryz.prog) w 46 2 i0 (.int .i64 0) Tryz.underlying46 hi hz0 .i64 .i64 n0 n0 (by omega) (by omega) (by rw [hz2]; omega) (by omega)
  rw [hz1, Nat.mul_one] at this
  exact this
 obtain ⟨R, HR⟩ : ∃ R, Hid (rcL S.n0 S.n1 g (lstD S.n1 false g (p : Int)) (p : Int) = R) := ⟨_, (rfl : rcL S.n0 S.n1 g (lstD S.n1 false g (p : Int)) (p : Int) = _)⟩
 rw [HR.out]
 have HRl : Hid (R.length = n0) := (by rw [← HR.out, rcL_len, H0.out] : R.length = n0)
 obtain ⟨X, HX⟩ : ∃ X, Hid (X = W.alloc (.cells (madeCells #[.int .i64 0] n0) 2)) := ⟨_, (rfl : W.alloc (.cells (madeCells #[.int .i64 0] n0) 2) = _)⟩
 have hbX : Bel W X := by rw [HX.out]; exact bel_alloc (Bel.refl _) _
 have hOX : X.ownsRow W.heap.size 2 1 (.slice (some ⟨W.heap.size, 0, none⟩) n0 n0) n0 (tkV R 0 n0) := by
  rw [HX.out, tkV_zero, ← toList_madeCells_one]
  rw [H0.out] at m0
  exact World.ownsRow_lit W _ n0 (Nat.le_refl _) (by unfold maxLen; omega) (by rw [← Array.length_toList, toList_madeCells_one]; simp)
 obtain ⟨BT, HBT⟩ : ∃ n, Hid (W.heap.size = n) := ⟨_, (rfl : W.heap.size = _)⟩
 rw [HBT.out] at hOX
 have HwBT : Hid (w.heap.size ≤ BT) := (by rw [← HBT.out]; exact hBW.out.size : w.heap.size ≤ BT)
 have hBX := bel_step hBW hbX
 have hBTX : BT < X.heap.size := (World.ownsRow.lt hOX BT rfl).2
 have hXS : Blk X nw [.slice S.a0 n0 S.c0, .slice S.a1 n1 S.c1, .slice S.a2 S.n2 S.c2, .slice (some ⟨S.Bb, 0, none⟩) n0 n0, .slice (some ⟨S.Be, 0, none⟩) n0 n0, .map (some S.M), .slice (some ⟨S.Wd, 0, none⟩) n1 n1] := by rw [← Hnw.out, ← H0.out, ← H1.out]; exact XW.bel hbX
 have HK : Hid (∀ w', Bel X w' → w'.cell? ⟨nw, 0, none⟩ = some (.slice S.a0 n0 S.c0) ∧ w'.cell? ⟨nw, 1, none⟩ = some (.slice S.a1 n1 S.c1) ∧ w'.cell? ⟨nw, 2, none⟩ = some (.slice S.a2 S.n2 S.c2) ∧ w'.cell? ⟨nw, 3, none⟩ = some (.slice (some ⟨S.Bb, 0, none⟩) n0 n0) ∧ w'.cell? ⟨nw, 4, none⟩ = some (.slice (some ⟨S.Be, 0, none⟩) n0 n0) ∧ w'.cell? ⟨nw, 5, none⟩ = some (.map (some S.M)) ∧ w'.cell? ⟨nw, 6, none⟩ = some (.slice (some ⟨S.Wd, 0, none⟩) n1 n1)) := (fun w' h => by
  have a := hXS.bel h
  exact ⟨a.cell 0 (by simp), a.cell 1 (by simp), a.cell 2 (by simp), a.cell 3 (by simp), a.cell 4 (by simp), a.cell 5 (by simp), a.cell 6 (by simp)⟩ : ∀ w', Bel X w' → w'.cell? ⟨nw, 0, none⟩ = some (.slice S.a0 n0 S.c0) ∧ w'.cell? ⟨nw, 1, none⟩ = some (.slice S.a1 n1 S.c1) ∧ w'.cell? ⟨nw, 2, none⟩ = some (.slice S.a2 S.n2 S.c2) ∧ w'.cell? ⟨nw, 3, none⟩ = some (.slice (some ⟨S.Bb, 0, none⟩) n0 n0) ∧ w'.cell? ⟨nw, 4, none⟩ = some (.slice (some ⟨S.Be, 0, none⟩) n0 n0) ∧ w'.cell? ⟨nw, 5, none⟩ = some (.map (some S.M)) ∧ w'.cell? ⟨nw, 6, none⟩ = some (.slice (some ⟨S.Wd, 0, none⟩) n1 n1))
 have hCX : Stc X.heap.size S g b1 nb X := (hC.bel hBX).mono hBX.out.size
 have cS : ∀ Y, Bel X Y → Calls Tryz.prog 56 #[.agg #[.slice S.a0 n0 S.c0, .slice S.a1 n1 S.c1, .slice S.a2 S.n2 S.c2, .slice (some ⟨S.Bb, 0, none⟩) n0 n0, .slice (some ⟨S.Be, 0, none⟩) n0 n0, .map (some S.M), .slice (some ⟨S.Wd, 0, none⟩) n1 n1], .int .i64 (p : Int)] Y fun e w' => BegOut Y S g e w' := fun Y h => by
  have k := searchOn_any S lo nb V g b1 p Y (hT.bel (bel_step hBX h)) ((hCX.bel h).mono h.out.size) hn0 hp hst hb
  rw [H0.out, H1.out, hst] at k
  exact k
 have HcS : Hid (∀ Y, Bel X Y → Calls Tryz.prog 56 #[.agg #[.slice S.a0 n0 S.c0, .slice S.a1 n1 S.c1, .slice S.a2 S.n2 S.c2, .slice (some ⟨S.Bb, 0, none⟩) n0 n0, .slice (some ⟨S.Be, 0, none⟩) n0 n0, .map (some S.M), .slice (some ⟨S.Wd, 0, none⟩) n1 n1], .int .i64 (p : Int)] Y fun e w' => BegOut Y S g e w') := cS
 have HT1 : Hid (RoadL X S.a1 g.roads b1) := hCX.roads
 have HHl : Hid (g.roads.length = S.n1) := hl
 have HG : Hid (graphP g) := hg
 have Hn0 : Hid (g.places.length = S.n0) := hn0
 have Hst : Hid (S.start = (p : Int)) := hst
 have Hb : Hid (S.back = false) := hb
 have HOX : Hid (X.ownsRow BT 2 1 (.slice (some ⟨BT, 0, none⟩) n0 n0) n0 (tkV R 0 n0)) := hOX
 have HBX : Hid (Bel w X) := hBX
 have u0 : W.cell? ⟨w.heap.size, 0, none⟩ = some (.slice S.a0 n0 S.c0) := by rw [← H0.out]; exact XW.cell 0 (by simp)
 have ul := XW.lt
 rw [Hnw.out] at u0 ul
 have hp' := hp
 rw [H0.out] at hp' m0
 rw [H1.out] at m1
 clear hT hC hBW XW hbX hOX hBX hXS hCX cS
 rw [H0.out, H1.out] at HW ⊢
 rw [hst]
 clear hst hb hl hg hn0
 go_enter Tryz.func43, Tryz.ntmps43
 go_upto_region 1 with fail
 rw [← HW.out, Hnw.out]
 go_upto_region 2 with fail
 rw [← HX.out, HBT.out]
 clear u0 ul hmk
 go_cut [19, 20, 21] (fun v k i wx => ∃ L bl d, v = .slice (some ⟨L, 0, none⟩) n0 n0 ∧ k = .int .i64 n0 ∧ i = .int .i64 0 ∧ Hid (wx.ownsRow X.heap.size 114 3 (.slice (some ⟨L, 0, none⟩) n0 n0) n0 ((lgL bl false g (p : Int) n0 n1).flatMap legCs)) ∧ Hid (Bel X wx) ∧ Hid (lstD n1 false g (p : Int) = d ∧ (∀ q, tldC (lgF bl false g (p : Int) n1 q).1 = rcV n1 g d (p : Int) q)))
 case first =>
  as_aux_lemma =>
  refine wp_region_noPanic ?_
  refine wp_region_held_drew (S := fun w' => w'.cell? ⟨nw, 0, none⟩ = some (.slice S.a0 n0 S.c0) ∧ w'.cell? ⟨nw, 1, none⟩ = some (.slice S.a1 n1 S.c1) ∧ w'.cell? ⟨nw, 2, none⟩ = some (.slice S.a2 S.n2 S.c2) ∧ w'.cell? ⟨nw, 3, none⟩ = some (.slice (some ⟨S.Bb, 0, none⟩) n0 n0) ∧ w'.cell? ⟨nw, 4, none⟩ = some (.slice (some ⟨S.Be, 0, none⟩) n0 n0) ∧ w'.cell? ⟨nw, 5, none⟩ = some (.map (some S.M)) ∧ w'.cell? ⟨nw, 6, none⟩ = some (.slice (some ⟨S.Wd, 0, none⟩) n1 n1)) (by kernel_rfl) (HK.out _ (Bel.refl _).drew) (fun hHeld => ?_)
  have hY0 : Bel X X.drew := (Bel.refl _).drew
  generalize X.drew = Y at hHeld hY0 ⊢
  refine tk 0 hHeld ?_; refine tk 1 hHeld ?_; refine tk 3 hHeld ?_; refine tk 7 hHeld ?_
  refine rd1 2 (fun K hK => ?_)
  go_simp
  refine (HcS.out Y hY0).mono ?_
  rintro e wS ⟨⟨base, P, vl, s, Ls, D, rfl, hSJ, h0, hSt, hbs, hbS⟩⟩
  have hYS := bel_step hY0 hbS
  rw [Hst.out] at hSJ
  have hLs : lstD n1 false g (p : Int) = dO n1 s.bl := by
   have h := hSJ.lst h0
   rw [Hb.out, H1.out] at h
   exact h
  have hcat : ∀ y, y < n1 → cAt s.bl y = (dO n1 s.bl y).getD ⟨noT, 0⟩ := fun y hy => by
   have h := hSJ.cat (x := y) (by rw [H1.out]; exact hy)
   rw [H1.out] at h
   exact h
  have hcbd : ∀ x c, dO n1 s.bl x = some c → 0 ≤ c.t ∧ c.t < noT ∧ 0 ≤ c.c := fun x c hd => by
   have h := hSJ.cbd (by rw [H1.out]; exact m1) x c (by rw [H1.out]; exact hd)
   exact h
  have HTold : Hid (∀ q, tldC (lgF s.bl false g (p : Int) n1 q).1 = rcV n1 g (dO n1 s.bl) (p : Int) q) := fun q => leg_told (by rw [HHl.out, H1.out]) hcat hcbd
  have Hbl : Hid (s.bl.length = S.n1) := hSJ.bl
  have HLs : Hid (lstD n1 false g (p : Int) = dO n1 s.bl) := hLs
  obtain ⟨vb, vo, vi, ys, hP1, hB1', _, _, _, _⟩ := hSt.out
  have HP1 : Hid (SrP base S P wS vb vl vo vi) := hP1
  have HB1 : Hid (SrB base wS vb s.bl) := hB1'
  clear hSJ h0 hSt hP1 hB1' hLs hcat hcbd
  go_wp2_with fail
  refine hK.out _ _ (HK.out wS hYS) ?_; clear hK K hHeld; intro hHeld
  try simp only [Act.put, List.setIfInBounds_toArray, List.set_cons_zero, List.set_cons_succ]
  refine rd1 4 (fun K hK => ?_)
  go_simp
  refine (numbers_any S.a0 n0 S.c0 S.a1 n1 S.c1 S.a2 S.n2 S.c2 S.Bb S.Be S.M S.Wd wS m1).mono ?_
  rintro e wN ⟨Gn, rfl, hGn, hbN⟩
  have hYN := bel_step hYS hbN
  go_wp2_with fail
  refine hK.out _ _ (HK.out wN hYN) ?_; clear hK K hHeld; intro hHeld
  try simp only [Act.put, List.setIfInBounds_toArray, List.set_cons_zero, List.set_cons_succ]
  have cL := legs_any base P S vb vl vo vi g b1 s.bl Gn wS.heap.size p wN (own_bel HP1.out hbN) (own_bel HB1.out hbN) (HT1.out.bel roadE hYN) HHl.out Hbl.out HG.out Hn0.out Hst.out (by rw [H0.out]; exact hp') (by rw [H1.out]; exact hGn)
  rw [H0.out, H1.out, Hb.out, Hst.out] at cL
  refine rd1 5 (fun K hK => ?_)
  go_simp
  refine cL.mono ?_
  rintro e wL ⟨L, rfl, hOL, hbL⟩
  have hYL := bel_step hYN hbL
  go_wp2_with fail
  refine hK.out _ _ (HK.out wL hYL) ?_; clear hK K hHeld; intro hHeld
  try simp only [Act.put, List.setIfInBounds_toArray, List.set_cons_zero, List.set_cons_succ]
  refine tk 6 hHeld ?_
  refine wpAnyH_done (by kernel_rfl) ?_ _
  refine NoPanic.normal ?_
  go_wp2_with fail
  go_meet
  case rel => exact ⟨L, s.bl, _, rfl, rfl, rfl, own_lo hOL hYN.out.size, hYL, HLs.out, HTold.out⟩
 case rest =>
  obtain ⟨L, bl, d, rfl, rfl, rfl, HOL, HBc, Hd⟩ := hcut
  obtain ⟨wS, rfl⟩ : ∃ V, V = wc := ⟨_, rfl⟩
  have HOS : Hid (wS.ownsRow BT 2 1 (.slice (some ⟨BT, 0, none⟩) n0 n0) n0 (tkV R 0 n0)) := own_bel HOX.out HBc.out
  have HBS : Hid (Bel w wS) := bel_step HBX.out HBc.out
  have hLB : BT < L := by have := (World.ownsRow.lt HOL.out L rfl).1; omega
  have HRv : Hid (∀ k (h : k < R.length), R[k] = tldC (lgF bl false g (p : Int) n1 k).1) := (fun k h => by
   rw [Hd.out.2 k]
   have e := HR.out
   rw [H0.out, H1.out, Hd.out.1] at e
   have h2 : k < (rcL n0 n1 g d (p : Int)).length := by rw [e]; exact h
   have e3 := rcL_at h2
   simp only [e] at e3
   exact e3 : ∀ k (h : k < R.length), R[k] = tldC (lgF bl false g (p : Int) n1 k).1)
  clear HBc HK HcS HOX hBTX
  go_wp2_with fail
  go_loopw [6, 7, 21] (fun _ _ i wr => ∃ k : Nat, k ≤ n0 ∧ i = .int .i64 k ∧ Hid (wr.ownsRow BT 2 1 (.slice (some ⟨BT, 0, none⟩) n0 n0) n0 (tkV R k n0)) ∧ Hid (Frx (fun y => y ≠ BT) wS wr)) (fun _ _ i _ => n0 - (intOf i).toNat)
  case atStart => exact ⟨0, Nat.zero_le _, rfl, HOS, Frx.refl _ _⟩
  case round =>
   obtain ⟨k, hk, rfl, HO, HFr⟩ := hrel
   by_cases hlt : k < n0
   ·as_aux_lemma =>
    have hll := lgL_len bl false g (p : Int) n0 n1
    have hOr := own_frx HOL.out HFr.out (fun y e => by have e : L = y := (by simpa [Value.ownBlock] using e); omega)
    obtain ⟨q0, q1, q2⟩ := leg_at hOr hll (i := k) (by rw [hll]; exact hlt)
    have ql := (World.ownsRow.lt hOr L rfl).2
    rw [lgL_at hlt] at q0 q1 q2
    have HTk := HRv.out k (by rw [HRl.out]; exact hlt)
    obtain ⟨z, Hz⟩ : ∃ z, Hid (lgF bl false g (p : Int) n1 k = z) := ⟨_, (rfl : lgF bl false g (p : Int) n1 k = _)⟩
    rw [Hz.out] at q0 q1 q2 HTk
    obtain ⟨T, HT⟩ : ∃ t, Hid (tldC z.1 = t) := ⟨_, (rfl : tldC z.1 = _)⟩
    have HRk : Hid ((tkV R k n0).set k (.int .i64 T) = tkV R (k + 1) n0) := (by
     rw [← tkV_set hlt HRl.out, ← HT.out, HTk] : (tkV R k n0).set k (.int .i64 T) = tkV R (k + 1) n0)
    have hltI : (k : Int) < (n0 : Int) := by omega
    have hcT := fun w' => told_any z.1 w'
    rw [HT.out] at hcT
    obtain ⟨V1, HV1⟩ : ∃ X, Hid (X = wr.alloc (.cells #[.int .i64 z.1.t, .int .i64 z.1.c, .int .i64 z.2] 114)) := ⟨_, (rfl : wr.alloc (.cells #[.int .i64 z.1.t, .int .i64 z.1.c, .int .i64 z.2] 114) = _)⟩
    have hbV : Bel wr V1 := by rw [HV1.out]; exact bel_alloc (Bel.refl _) _
    have XV : Blk V1 wr.heap.size [.int .i64 z.1.t, .int .i64 z.1.c, .int .i64 z.2] := by rw [HV1.out]; exact Blk.new wr [.int .i64 z.1.t, .int .i64 z.1.c, .int .i64 z.2] _
    have v0 : V1.cell? ⟨wr.heap.size, 0, none⟩ = some (.int .i64 z.1.t) := XV.cell 0 (by simp)
    have v1 : V1.cell? ⟨wr.heap.size, 1, none⟩ = some (.int .i64 z.1.c) := XV.cell 1 (by simp)
    have vl := XV.lt
    clear hOr HTk XV
    go_upto_region 5 with fail
    rw [← HV1.out]
    clear q0 q1 q2 ql
    go_wp2_with fail
    refine (hcT _).mono ?_
    rintro e w7 ⟨rfl, hb7⟩
    have hB7 : Bel wr w7 := bel_step hbV hb7
    have hO7 := own_bel HO.out hB7
    have o1 : w7.cell? ⟨BT, k, none⟩ = some ((tkV R k n0)[k]'(by rw [tkV_len]; exact hlt)) := by rw [hO7.cellAt k (by omega), List.getElem?_eq_getElem]
    have o2 := World.ownsRow.frozenAt hO7 k
    have o3 := (World.ownsRow.lt hO7 BT rfl).2
    have HO8 : Hid ((w7.setCell ⟨BT, k, none⟩ (.int .i64 T)).ownsRow BT 2 1 (.slice (some ⟨BT, 0, none⟩) n0 n0) n0 (tkV R (k + 1) n0)) := (by rw [← HRk.out]; exact (World.ownsRow.stored hO7 k (.int .i64 T)).1 : (w7.setCell ⟨BT, k, none⟩ (.int .i64 T)).ownsRow BT 2 1 (.slice (some ⟨BT, 0, none⟩) n0 n0) n0 (tkV R (k + 1) n0))
    have HF8 : Hid (Frx (fun y => y ≠ BT) wS (w7.setCell ⟨BT, k, none⟩ (.int .i64 T))) := HFr.out.trans ((Frx.bel hB7).trans (Frx.stored (fun h => h rfl)))
    obtain ⟨old, Hold⟩ : ∃ v, Hid ((tkV R k n0)[k]'(by rw [tkV_len]; exact hlt) = v) := ⟨_, (rfl : (tkV R k n0)[k]'(by rw [tkV_len]; exact hlt) = _)⟩
    rw [Hold.out] at o1
    clear hO7 v0 v1 vl hcT hB7 hb7 hbV
    go_wp2
    go_roundw
    case rel => exact ⟨k + 1, by omega, by go_num, HO8, HF8⟩
    case measure => simp [intOf]; omega
   ·as_aux_lemma =>
    have e : n0 = k := by omega
    have hge : ¬ (k : Int) < (n0 : Int) := by omega
    have HOE : Hid (OwnI w.heap.size wr (.slice (some ⟨BT, 0, none⟩) n0 n0) R) := (by
     have h := HO.out
     rw [← e, tkV_all HRl.out] at h
     unfold OwnI
     rw [HRl.out]
     exact own_lo h HwBT.out : OwnI w.heap.size wr (.slice (some ⟨BT, 0, none⟩) n0 n0) R)
    have HBE : Hid (Bel w wr) := Frx.bel_of HBS.out HFr.out HwBT.out
    clear HO HFr e
    go_wp2
    go_ret
    exact ⟨_, rfl, HOE.out, HBE.out⟩

set_option maxRecDepth 100000 in
set_option maxHeartbeats 4000000 in
theorem reach_any (v : Value) (g : GraphD) (bs : List Nat) (x : Int) (w : World) (hT : Winds w) (hV : GphV w v g bs) (hQ : GphQ g) :
  Calls Tryz.prog 22 #[v, .int .i64 x] w fun e w' => ∃ v', e = .returned v' ∧ OwnI w.heap.size w' v' (rcQ g x) ∧ Bel w w' := by
 have hV' := hV
 obtain ⟨a0, c0, a1, c1, a2, c2, b0, b1, b2, _, rfl, t0, t1, t2⟩ := hV
 obtain ⟨n0, H0⟩ : ∃ n, Hid (g.places.length = n) := ⟨_, (rfl : g.places.length = _)⟩
 obtain ⟨n1, H1⟩ : ∃ n, Hid (g.roads.length = n) := ⟨_, (rfl : g.roads.length = _)⟩
 obtain ⟨n2, H2⟩ : ∃ n, Hid (g.bans.length = n) := ⟨_, (rfl : g.bans.length = _)⟩
 rw [H0.out, H1.out, H2.out] at hV' ⊢
 obtain ⟨W, HW⟩ : ∃ W, Hid (W = w.alloc (.cells #[.slice a0 n0 c0, .slice a1 n1 c1, .slice a2 n2 c2] 34)) := ⟨_, (rfl : w.alloc (.cells #[.slice a0 n0 c0, .slice a1 n1 c1, .slice a2 n2 c2] 34) = _)⟩
 have hBW : Bel w W := by rw [HW.out]; exact bel_alloc (Bel.refl _) _
 have XG : Blk W w.heap.size [.slice a0 n0 c0, .slice a1 n1 c1, .slice a2 n2 c2] := by rw [HW.out]; exact Blk.new w [.slice a0 n0 c0, .slice a1 n1 c1, .slice a2 n2 c2] _
 obtain ⟨R, HR⟩ : ∃ R, Hid (rcQ g x = R) := ⟨_, (rfl : rcQ g x = _)⟩
 rw [HR.out]
 by_cases hP : graphP g
 ·have HP : Hid (graphP g) := hP
  have m1 : n1 ≤ 8000 := by rw [← H1.out]; exact hP.1.2.1
  have m0 : n0 ≤ 5000 := by rw [← H0.out]; exact hP.1.1
  clear hP
  go_enter Tryz.func22, Tryz.ntmps22
  go_wp2_with fail
  rw [← HW.out]
  refine (streetsOf_yes _ _ _ _ _ _ _ _ _ g b0 b1 b2 _ (hT.bel hBW) (t0.bel spotE hBW) (t1.bel roadE hBW) (t2.bel banE hBW) H0.out H1.out H2.out HP.out).mono ?_
  rintro e w1 ⟨⟨lo, Bb, Be, M, Wd, V, rfl, hTb, hS, hWn, hMl, _, _, _, hb1⟩⟩
  rw [H0.out, H1.out] at hTb
  rw [H1.out] at hWn
  rw [H0.out, H1.out]
  have hB1 := bel_step hBW hb1
  obtain ⟨U, HU⟩ : ∃ U, Hid (U = w1.alloc (.cells #[.slice a0 n0 c0, .slice a1 n1 c1, .slice a2 n2 c2, .slice (some ⟨Bb, 0, none⟩) n0 n0, .slice (some ⟨Be, 0, none⟩) n0 n0, .map (some M), .slice (some ⟨Wd, 0, none⟩) n1 n1] 91)) := ⟨_, (rfl : w1.alloc (.cells #[.slice a0 n0 c0, .slice a1 n1 c1, .slice a2 n2 c2, .slice (some ⟨Bb, 0, none⟩) n0 n0, .slice (some ⟨Be, 0, none⟩) n0 n0, .map (some M), .slice (some ⟨Wd, 0, none⟩) n1 n1] 91) = _)⟩
  have hbU : Bel w1 U := by rw [HU.out]; exact bel_alloc (Bel.refl _) _
  have hBU := bel_step hB1 hbU
  have XG1 := (XG.bel hb1).bel hbU
  have x0 : U.cell? ⟨w.heap.size, 0, none⟩ = some (.slice a0 n0 c0) := XG1.cell 0 (by simp)
  have x1 : U.cell? ⟨w.heap.size, 1, none⟩ = some (.slice a1 n1 c1) := XG1.cell 1 (by simp)
  have xl := XG1.lt
  rcases Bool.eq_false_or_eq_true (inN n0 x) with hx | hx
  rotate_left
  ·have HF : Hid (R = []) := (by rw [← HR.out]; exact rcQ_no (fun h => by have := h.2; rw [H0.out, hx] at this; cases this) : R = [])
   clear XG1 XG hS hWn hTb
   go_upto_region 2 with fail
   rw [← HU.out]
   go_wp2_with fail
   refine (inSpot_r _ _ _ _ false _ hx).mono ?_
   rintro e w' ⟨rfl, rfl⟩
   go_wp2
   go_ret
   exact ⟨_, rfl, by rw [HF.out]; exact World.ownsRow_nil _ _ _ _, hBU⟩
  obtain ⟨p, hp, rfl⟩ := inN_nat hx
  have HF : Hid (R = rcL n0 n1 g (lstD n1 false g (p : Int)) (p : Int)) := (by rw [← HR.out, rcQ_yes HP.out (by rw [H0.out]; exact hx), H0.out, H1.out] : R = rcL n0 n1 g (lstD n1 false g (p : Int)) (p : Int))
  have XU : Blk U w1.heap.size [.slice a0 n0 c0, .slice a1 n1 c1, .slice a2 n2 c2, .slice (some ⟨Bb, 0, none⟩) n0 n0, .slice (some ⟨Be, 0, none⟩) n0 n0, .map (some M), .slice (some ⟨Wd, 0, none⟩) n1 n1] := by rw [HU.out]; exact Blk.new w1 [.slice a0 n0 c0, .slice a1 n1 c1, .slice a2 n2 c2, .slice (some ⟨Bb, 0, none⟩) n0 n0, .slice (some ⟨Be, 0, none⟩) n0 n0, .map (some M), .slice (some ⟨Wd, 0, none⟩) n1 n1] _
  have u0 : U.cell? ⟨w1.heap.size, 0, none⟩ = some (.slice a0 n0 c0) := XU.cell 0 (by simp)
  have u1 : U.cell? ⟨w1.heap.size, 1, none⟩ = some (.slice a1 n1 c1) := XU.cell 1 (by simp)
  have u2 : U.cell? ⟨w1.heap.size, 2, none⟩ = some (.slice a2 n2 c2) := XU.cell 2 (by simp)
  have u3 : U.cell? ⟨w1.heap.size, 3, none⟩ = some (.slice (some ⟨Bb, 0, none⟩) n0 n0) := XU.cell 3 (by simp)
  have u4 : U.cell? ⟨w1.heap.size, 4, none⟩ = some (.slice (some ⟨Be, 0, none⟩) n0 n0) := XU.cell 4 (by simp)
  have u5 : U.cell? ⟨w1.heap.size, 5, none⟩ = some (.map (some M)) := XU.cell 5 (by simp)
  have u6 : U.cell? ⟨w1.heap.size, 6, none⟩ = some (.slice (some ⟨Wd, 0, none⟩) n1 n1) := XU.cell 6 (by simp)
  have ul := XU.lt
  have hsM : M < U.heap.size := by have := hTb.sz; have := hbU.out.size; omega
  have hsW : Wd < U.heap.size := by have := hWn.lt; have := hbU.out.size; omega
  have hsR : ∀ y ∈ b1, y < U.heap.size := fun y hy => by have := t1.lt roadE y hy; have := hBU.out.size; omega
  have cS := timesFrom_any ⟨a0, n0, c0, a1, n1, c1, a2, n2, c2, Bb, Be, M, Wd, false, (p : Int)⟩ lo g.bans.length V g b1 p U (hTb.bel hbU) ⟨t1.bel roadE hBU, hsR, hWn.bel hbU, hsW, hS.bel hbU, hsM, H1.out, HP.out⟩ H0.out hp rfl rfl
  have HcS : Hid (Calls Tryz.prog 43 #[.agg #[.slice a0 n0 c0, .slice a1 n1 c1, .slice a2 n2 c2, .slice (some ⟨Bb, 0, none⟩) n0 n0, .slice (some ⟨Be, 0, none⟩) n0 n0, .map (some M), .slice (some ⟨Wd, 0, none⟩) n1 n1], .int .i64 (p : Int)] U fun e w' => ∃ v', e = .returned v' ∧ OwnI U.heap.size w' v' (rcL n0 n1 g (lstD n1 false g (p : Int)) (p : Int)) ∧ Bel U w') := cS
  have HBU : Hid (Bel w U) := hBU
  clear XG1 XG hS hWn hTb cS hbU hB1 hBU XU t0 t1 t2 hV'
  go_upto_region 2 with fail
  rw [← HU.out]
  go_wp2_with fail
  refine (inSpot_r _ _ _ _ true _ hx).mono ?_
  rintro e w' ⟨rfl, hw'⟩
  obtain rfl := hw'.symm
  go_wp2_with fail
  refine HcS.out.mono ?_
  rintro e wS ⟨v', rfl, hO, hbS⟩
  have HOE : Hid (OwnI w.heap.size wS v' R) := (by rw [HF.out]; exact own_lo hO HBU.out.out.size : OwnI w.heap.size wS v' R)
  have HBE : Hid (Bel w wS) := bel_step HBU.out hbS
  clear hO hbS HcS u0 u1 u2 u3 u4 u5 u6 ul x0 x1 xl
  go_wp2
  go_ret
  exact ⟨_, rfl, HOE.out, HBE.out⟩
 ·have HF : Hid (R = []) := (by rw [← HR.out]; exact rcQ_no (fun h => hP h.1) : R = [])
  go_enter Tryz.func22, Tryz.ntmps22
  go_wp2_with fail
  rw [← HW.out]
  refine (streetsOf_no _ _ _ _ _ _ _ _ _ g bs _ (hV'.bel hBW) hQ hP).mono ?_
  rintro e w1 ⟨rfl, hb1⟩
  have hB1 := bel_step hBW hb1
  clear XG
  go_wp2
  go_ret
  exact ⟨_, rfl, by rw [HF.out]; exact World.ownsRow_nil _ _ _ _, bel_alloc hB1 _⟩
end Go.Proofs.YtdlgehnoiaoneaaGreatDoor
