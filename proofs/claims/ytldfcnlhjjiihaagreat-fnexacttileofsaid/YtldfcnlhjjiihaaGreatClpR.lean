/-
  The pieces of a clipped row: one stretch more: the program's contract.
-/
import Derived.Test.YtldfcnlhjjiihaaGreatGA
import Derived.Test.YtldfcnlhjjiihaaGreatClpQ
import Derived.Deep.DeepCutAuto
namespace Go.Proofs.YtldfcnlhjjiihaaGreat
open Go.RowKit Go.Maps

/-- The last point of the open piece is this one. -/
def jnP (q : PcD) (f : PtD) : Prop := q.op = true ∧ ∃ h : q.pts.length - 1 < q.pts.length, q.pts[q.pts.length - 1].x = f.x ∧ q.pts[q.pts.length - 1].y = f.y
noncomputable def jnPts (q : PcD) (f : PtD) : List PtD := if bP (jnP q f) = true then q.pts else q.pts ++ [f]
noncomputable def jnSs (q : PcD) (f : PtD) : List Nat := if bP (jnP q f) = true then q.ss else q.ss ++ [q.pts.length]
structure CutA (B : Nat) (w : World) (pts : List PtD) (ss : List Nat) (t : PtD) (wx : World) : Prop where
 out : ∃ q1, Pcs B wx q1 ∧ q1.pts = pts ∧ q1.ss = ss ∧ Below B w wx ∧ Blk wx (w.heap.size + 1) [.int .i64 t.x, .int .i64 t.y] ∧ q1.vp.ownBlock ≠ some (w.heap.size + 1)
structure AddOut (B : Nat) (w : World) (q : PcD) (f t : PtD) (e : Ending) (w' : World) : Prop where
 out : ∃ q1, e = .returned (.tuple #[]) ∧ Pcs B w' q1 ∧ q1.pts = jnPts q f ++ [t] ∧ q1.ss = jnSs q f ∧ q1.op = true ∧ Below B w w'

set_option maxRecDepth 100000 in
set_option maxHeartbeats 4000000 in
theorem add_pc (B : Nat) (q : PcD) (f t : PtD) (w : World) (hP : Pcs B w q) (hf : PqP f) (ht : PqP t) (hop : q.op = true → 0 < q.pts.length) (hl : q.pts.length ≤ 1000000) (hs : q.ss.length ≤ 1000000) :
  Calls Tryz.prog 99 #[.pointer (some ⟨B, 0, none⟩), .agg #[.int .i64 f.x, .int .i64 f.y], .agg #[.int .i64 t.x, .int .i64 t.y]] w fun e w' => AddOut B w q f t e w' := by
 obtain ⟨i0, hi0, hz0, hz1, hz2⟩ := info_parts infoIn
 obtain ⟨i1, hi1, hy0, hy1, hy2⟩ := info_parts infoPq
 have hne := ptNe
 obtain ⟨b, Hb⟩ : ∃ b, Hid (b = (w.alloc (.cells #[.int .i64 f.x, .int .i64 f.y] 61)).alloc (.cells #[.int .i64 t.x, .int .i64 t.y] 61)) := ⟨_, (rfl : (w.alloc (.cells #[.int .i64 f.x, .int .i64 f.y] 61)).alloc (.cells #[.int .i64 t.x, .int .i64 t.y] 61) = _)⟩
 have hwb : Bel w b := by rw [Hb.out]; exact bel_alloc (bel_alloc (Bel.refl _) _) _
 have XF : Blk b w.heap.size [.int .i64 f.x, .int .i64 f.y] := by rw [Hb.out]; exact (Blk.new w [.int .i64 f.x, .int .i64 f.y] _).bel (bel_alloc (Bel.refl _) _)
 have XT : Blk b (w.heap.size + 1) [.int .i64 t.x, .int .i64 t.y] := by rw [Hb.out]; exact Blk.new1 w _ [.int .i64 t.x, .int .i64 t.y] _
 have hPb := hP.bel hwb
 have hBw := hP.box.lt
 have hpl : q.vp.ownBlock ≠ some (w.heap.size + 1) := fun e => by have := (hP.pts.own.lt _ e).2; omega
 have hpf : q.vp.ownBlock ≠ some w.heap.size := fun e => by have := (hP.pts.own.lt _ e).2; omega
 have hsl : q.vs.ownBlock ≠ some (w.heap.size + 1) := fun e => by have := (hP.ss.lt _ e).2; omega
 have hsf : q.vs.ownBlock ≠ some w.heap.size := fun e => by have := (hP.ss.lt _ e).2; omega
 have hBB : Below B w b := hwb.out.mono (Nat.le_of_lt hBw)
 clear hP
 go_enter Tryz.func99, Tryz.ntmps99
 go_wp2
 rw [← Hb.out]
 go_cut [26] (fun v wx => v = .bool (!bP (jnP q f)) ∧ Bel b wx)
 case first =>
  have hR : ∀ w', Bel b w' → w'.cell? ⟨B, 0, none⟩ = some q.vp ∧ w'.cell? ⟨B, 2, none⟩ = some (.bool q.op) ∧ w'.cell? ⟨w.heap.size, 0, none⟩ = some (.int .i64 f.x) ∧ w'.cell? ⟨w.heap.size, 1, none⟩ = some (.int .i64 f.y) := fun w' h => by
   have h1 := hPb.box.bel h
   have h2 := XF.bel h
   exact ⟨h1.cell 0 (by simp), h1.cell 2 (by simp), h2.cell 0 (by simp), h2.cell 1 (by simp)⟩
  have g0 : Bel b b := Bel.refl _
  have gd : Bel b b.drew := Bel.drew g0
  rcases Bool.eq_false_or_eq_true q.op with ho | ho
  ·have hpos := hop ho
   have hlast : q.pts.length - 1 < q.pts.length := by omega
   obtain ⟨n, Hn⟩ : ∃ n, Hid (q.pts.length = n + 1) := ⟨q.pts.length - 1, (by omega : q.pts.length = q.pts.length - 1 + 1)⟩
   have hlast2 : n < q.pts.length := by rw [Hn.out]; omega
   obtain ⟨gp, cp, hvp⟩ := own_some hPb.pts.own hpos
   obtain ⟨a', c', bs', hv', S', _⟩ := Gr.out pqF.stays hPb.pts
   obtain ⟨lb, lo, lf, rfl, hlb, hlx⟩ := S'.out hlast2
   obtain ⟨_, _, _, l0, l1⟩ := hlx n hlast2
   obtain ⟨d, Hd⟩ : ∃ d, Hid (d = q.pts[n]) := ⟨_, (rfl : q.pts[n] = _)⟩
   rw [← Hd.out] at l0 l1
   have hvv : q.vp = .slice (some ⟨lb, lo, none⟩) (n + 1) c' := by rw [hv', Hn.out]
   have hR2 : ∀ w', Bel b w' → w'.cell? ⟨B, 0, none⟩ = some (.slice (some ⟨lb, lo, none⟩) (n + 1) c') ∧ w'.cell? ⟨B, 2, none⟩ = some (.bool true) ∧ w'.cell? ⟨w.heap.size, 0, none⟩ = some (.int .i64 f.x) ∧ w'.cell? ⟨w.heap.size, 1, none⟩ = some (.int .i64 f.y) ∧ w'.cell? ⟨lb, lo + n * 2, none⟩ = some (.int .i64 d.x) ∧ w'.cell? ⟨lb, lo + n * 2 + 1, none⟩ = some (.int .i64 d.y) := fun w' h => by
    obtain ⟨r1, r2, r3, r4⟩ := hR w' h
    rw [hvv] at r1
    rw [ho] at r2
    exact ⟨r1, r2, r3, r4, bel_cellM h hlb l0, bel_cellM h hlb l1⟩
   have hnl : n ≤ 1000000 := by have := Hn.out; omega
   have hn0 : (0 : Int) ≤ (n : Int) := by omega
   have hn1 : (n : Int) ≤ 1000000 := by omega
   have hn2 : (n : Int) < (n : Int) + 1 := by omega
   have hn3 : ¬ ((n : Int) < 0) := by omega
   have hk0 : IntKind.i64.wrap (n : Int) = n := by rw [IntKind.wrap_i64]; omega
   have hk1 : IntKind.i64.wrap ((n : Int) + 1 - 1) = n := by rw [IntKind.wrap_i64]; omega
   have hJ : jnP q f ↔ d.x = f.x ∧ d.y = f.y := by
    have e : q.pts.length - 1 = n := by have := Hn.out; omega
    constructor
    ·rintro ⟨_, h, h1⟩
     rw [Hd.out]
     simp only [e] at h1
     exact h1
    ·intro h1
     rw [Hd.out] at h1
     exact ⟨ho, hlast, by simp only [e]; exact h1⟩
   by_cases hj : d.x = f.x ∧ d.y = f.y
   ·have HJ : Hid (bP (jnP q f) = true) := bP_true (hJ.2 hj)
    have hq := pt_same hj
    clear hR hv' hvv hvp S' hlx hJ l0 l1
    go_region_held3 (fun w' => w'.cell? ⟨B, 0, none⟩ = some (.slice (some ⟨lb, lo, none⟩) (n + 1) c') ∧ w'.cell? ⟨B, 2, none⟩ = some (.bool true) ∧ w'.cell? ⟨w.heap.size, 0, none⟩ = some (.int .i64 f.x) ∧ w'.cell? ⟨w.heap.size, 1, none⟩ = some (.int .i64 f.y) ∧ w'.cell? ⟨lb, lo + n * 2, none⟩ = some (.int .i64 d.x) ∧ w'.cell? ⟨lb, lo + n * 2 + 1, none⟩ = some (.int .i64 d.y)) (exact hR2 _ gd) (fail)
    go_wp2_with fail
    go_meet
    case rel => exact ⟨by rw [HJ.out]; simp, gd⟩
   ·have HJ : Hid (bP (jnP q f) = false) := bP_false fun h => hj (hJ.1 h)
    have hq := pt_diff hj
    clear hR hv' hvv hvp S' hlx hJ l0 l1
    go_region_held3 (fun w' => w'.cell? ⟨B, 0, none⟩ = some (.slice (some ⟨lb, lo, none⟩) (n + 1) c') ∧ w'.cell? ⟨B, 2, none⟩ = some (.bool true) ∧ w'.cell? ⟨w.heap.size, 0, none⟩ = some (.int .i64 f.x) ∧ w'.cell? ⟨w.heap.size, 1, none⟩ = some (.int .i64 f.y) ∧ w'.cell? ⟨lb, lo + n * 2, none⟩ = some (.int .i64 d.x) ∧ w'.cell? ⟨lb, lo + n * 2 + 1, none⟩ = some (.int .i64 d.y)) (exact hR2 _ gd) (fail)
    go_wp2_with fail
    go_meet
    case rel => exact ⟨by rw [HJ.out]; simp, gd⟩
  ·have HJ : Hid (bP (jnP q f) = false) := bP_false fun h => by have := h.1; rw [ho] at this; cases this
   have hR2 : ∀ w', Bel b w' → w'.cell? ⟨B, 2, none⟩ = some (.bool false) := fun w' h => by
    have r2 := (hR w' h).2.1
    rw [ho] at r2
    exact r2
   clear hR
   refine wp_region_noPanic ?_
   refine wp_region_held_drew (S := fun w' => Bel b w') (by kernel_rfl) (Bel.drew g0) (fun hHeld => ?_)
   refine tk 0 hHeld ?_; refine tk 1 hHeld ?_; refine tk 2 hHeld ?_; refine tk 3 hHeld ?_; refine tk 4 hHeld ?_; refine tk 5 hHeld ?_
   refine sk 6 hHeld ?_; refine sk 7 hHeld ?_; refine sk 8 hHeld ?_; refine sk 9 hHeld ?_; refine sk 10 hHeld ?_; refine sk 11 hHeld ?_
   refine sk 12 hHeld ?_; refine sk 13 hHeld ?_; refine sk 14 hHeld ?_; refine sk 15 hHeld ?_; refine sk 16 hHeld ?_
   refine sk 17 hHeld ?_; refine sk 18 hHeld ?_; refine sk 19 hHeld ?_; refine tk 20 hHeld ?_
   refine wpAnyH_done (by kernel_rfl) ?_ _
   refine NoPanic.normal ?_
   go_wp2_with fail
   go_meet
   case rel => exact ⟨by rw [HJ.out]; rfl, hHeld⟩
 case rest =>
 obtain ⟨rfl, hbc⟩ := hcut
 obtain ⟨b2, rfl⟩ : ∃ V, V = wc := ⟨_, rfl⟩
 go_upto_if 26 with fail
 go_cut [] (fun wx => CutA B w (jnPts q f) (jnSs q f) t wx)
 case first =>
  rcases Bool.eq_false_or_eq_true (bP (jnP q f)) with hj | hj
  ·rw [hj]
   go_wp2_with fail
   go_meet
   case rel => exact ⟨⟨q, hPb.bel hbc, by unfold jnPts; rw [if_pos hj], by unfold jnSs; rw [if_pos hj], hBB.trans (hbc.out.mono (Nat.le_trans (Nat.le_of_lt hBw) hwb.out.size)), XT.bel hbc, hpl⟩⟩
  ·rw [hj]
   have hP2 := hPb.bel hbc
   have XF2 := XF.bel hbc
   have XT2 := XT.bel hbc
   have hB2 : Below B w b2 := hBB.trans (hbc.out.mono (Nat.le_trans (Nat.le_of_lt hBw) hwb.out.size))
   obtain ⟨sa, sc, hvs⟩ := own_shape hP2.ss
   obtain ⟨pa, pc, hvp⟩ := own_shape hP2.pts.own
   have g1 : b2.cell? ⟨B, 1, none⟩ = some q.vs := hP2.box.cell 1 (by simp)
   have g2 : b2.cell? ⟨B, 0, none⟩ = some q.vp := hP2.box.cell 0 (by simp)
   have hBl : B < b2.heap.size := hP2.box.lt
   have hown : (b2.alloc (.cells #[.int .i64 (q.pts.length : Nat)] 3)).drew.ownsRow (B + 1) 3 1 q.vs q.ss.length (intsN q.ss) := (hP2.ss.alloc _).drew
   have hbR : Bel b2 (b2.alloc (.cells #[.int .i64 (q.pts.length : Nat)] 3)).drew := (bel_alloc (Bel.refl b2) _).drew
   have HBx : Hid (Blk (b2.alloc (.cells #[.int .i64 (q.pts.length : Nat)] 3)).drew B [q.vp, q.vs, .bool q.op]) := hP2.box.bel hbR
   have HXF : Hid (Blk (b2.alloc (.cells #[.int .i64 (q.pts.length : Nat)] 3)).drew w.heap.size [.int .i64 f.x, .int .i64 f.y]) := XF2.bel hbR
   have HXT : Hid (Blk (b2.alloc (.cells #[.int .i64 (q.pts.length : Nat)] 3)).drew (w.heap.size + 1) [.int .i64 t.x, .int .i64 t.y]) := XT2.bel hbR
   have hGs := own_off hP2.ss
   have Hvs : Hid (q.vs = .slice sa q.ss.length sc) := hvs
   have Hvp : Hid (q.vp = .slice pa q.pts.length pc) := hvp
   have HP2 : Hid (Pcs B b2 q) := hP2
   have Hsf : Hid (q.vs.ownBlock ≠ some w.heap.size) := hsf
   have Hsl : Hid (q.vs.ownBlock ≠ some (w.heap.size + 1)) := hsl
   rw [hvs] at g1 hown hGs
   rw [hvp] at g2
   have hpi : (q.pts.length : Int) ≤ 1000000 := by omega
   clear hP2 hvs hvp XF2 XT2 hPb XF XT hne
   go_wp2
   go_region_law (first
    | (refine step_append_lies _ rfl _ _ _ rfl (B + 1) 3 i0 (.int .i64 0) 1 8 Tryz.underlying174 hi0 hz0 hz1 hz2 rfl (by decide) (.slice sa q.ss.length sc) q.ss.length (intsN q.ss) (by rfl) hown ⟨b2.heap.size, 0, none⟩ 1 1 [.int .i64 (q.pts.length : Nat)] (by rfl) (by rfl) (World.news_of_block (cs := #[.int .i64 (q.pts.length : Nat)]) (t := 3) (fr := (0, 0)) (heap_alloc_new b2 _)) (by simp [Value.oneCell']) (by omega) (by unfold maxLen; omega) (by omega) (by simp; omega) (b2.heap.size + 1) (by simp) ?_; intro g cap wB hownB hgrow hat _; have hBB2 := HBx.out.kept hgrow hGs; have y6 : wB.cell? ⟨B, 1, none⟩ = some q.vs := hBB2.cell 1 (by simp); have z6 := hBB2.free 1))
   all_goals
    obtain ⟨hP3, hB3⟩ := HP2.out.start hbR (vs := .slice (some ⟨g, 0, none⟩) (q.ss.length + 1) cap) hownB (by rw [Hvs.out]; exact hgrow) (by rw [Hvs.out]; exact hatF (by simpa using hat))
    have hgs : (b2.alloc (.cells #[.int .i64 (q.pts.length : Nat)] 3)).drew.grownBy wB q.vs.ownBlock := by rw [Hvs.out]; exact hgrow
    have XF3 := (HXF.out.kept hgs (fun e => Hsf.out e.symm)).kept (setCell_grown wB B 1 (.slice (some ⟨g, 0, none⟩) (q.ss.length + 1) cap)) (fun e => by injection e with e; omega)
    have XT3 := (HXT.out.kept hgs (fun e => Hsl.out e.symm)).kept (setCell_grown wB B 1 (.slice (some ⟨g, 0, none⟩) (q.ss.length + 1) cap)) (fun e => by injection e with e; omega)
    obtain ⟨wC, HC⟩ : ∃ W, Hid (W = wB.setCell ⟨B, 1, none⟩ (.slice (some ⟨g, 0, none⟩) (q.ss.length + 1) cap)) := ⟨_, (rfl : wB.setCell ⟨B, 1, none⟩ (.slice (some ⟨g, 0, none⟩) (q.ss.length + 1) cap) = _)⟩
    rw [← HC.out] at hP3 hB3 XF3 XT3
    obtain ⟨q3, Hq3⟩ : ∃ q3 : PcD, Hid (q3 = { q with vs := .slice (some ⟨g, 0, none⟩) (q.ss.length + 1) cap, ss := q.ss ++ [q.pts.length] }) := ⟨_, (rfl : ({ q with vs := .slice (some ⟨g, 0, none⟩) (q.ss.length + 1) cap, ss := q.ss ++ [q.pts.length] } : PcD) = _)⟩
    rw [← Hq3.out] at hP3
    have E3 : Hid (q3.vp = q.vp ∧ q3.pts = q.pts ∧ q3.ss = q.ss ++ [q.pts.length] ∧ q3.R = q.R) := by rw [Hq3.out]; exact ⟨rfl, rfl, rfl, rfl⟩
    have p0 : wC.cell? ⟨w.heap.size, 0, none⟩ = some (.int .i64 f.x) := XF3.cell 0 (by simp)
    have p1 : wC.cell? ⟨w.heap.size, 1, none⟩ = some (.int .i64 f.y) := XF3.cell 1 (by simp)
    have hwC := XF3.lt
    have k1 : wC.cell? ⟨B, 0, none⟩ = some q3.vp := hP3.box.cell 0 (by simp)
    have hBC : B < wC.heap.size := hP3.box.lt
    have hown3 : (wC.alloc (.cells #[.int .i64 f.x, .int .i64 f.y] 61)).drew.ownsRow (B + 1) 61 2 q3.vp q3.pts.length (recs q3.R q3.pts.length) := (hP3.pts.own.alloc _).drew
    have hbR3 : Bel wC (wC.alloc (.cells #[.int .i64 f.x, .int .i64 f.y] 61)).drew := (bel_alloc (Bel.refl wC) _).drew
    have HBx3 : Hid (Blk (wC.alloc (.cells #[.int .i64 f.x, .int .i64 f.y] 61)).drew B [q3.vp, q3.vs, .bool q3.op]) := hP3.box.bel hbR3
    have HXT3 : Hid (Blk (wC.alloc (.cells #[.int .i64 f.x, .int .i64 f.y] 61)).drew (w.heap.size + 1) [.int .i64 t.x, .int .i64 t.y]) := XT3.bel hbR3
    have hGp := own_off hP3.pts.own
    have HP3 : Hid (Pcs B wC q3) := hP3
    have HB3 : Hid (Below B w wC) := hB2.trans hB3
    rw [E3.out.1, E3.out.2.1, E3.out.2.2.2, Hvp.out] at hown3
    rw [E3.out.1, Hvp.out] at k1 hGp
    clear hP3 hB3 hownB hgrow hat hown hBB2 y6 z6 XF3 HBx HXF HXT hgs g1 g2
    rw [← HC.out]
    go_wp2
    go_region_law (first
     | (refine step_append_lies _ rfl _ _ _ rfl (B + 1) 61 i1 (.agg #[.int .i64 0, .int .i64 0]) 2 16 Tryz.underlying54 hi1 hy0 hy1 hy2 rfl (by decide) (.slice pa q.pts.length pc) q.pts.length (recs q.R q.pts.length) (by rfl) hown3 ⟨wC.heap.size, 0, none⟩ 1 1 [.int .i64 f.x, .int .i64 f.y] (by rfl) (by rfl) (World.news_of_block (cs := #[.int .i64 f.x, .int .i64 f.y]) (t := 61) (fr := (0, 0)) (heap_alloc_new wC _)) (by simp [Value.oneCell']) (by omega) (by unfold maxLen; omega) (by omega) (by simp; omega) (wC.heap.size + 1) (by simp) ?_; intro g' cap' wD hownD hgrowD hatD _; have hBB4 := HBx3.out.kept hgrowD hGp; have y7 : wD.cell? ⟨B, 0, none⟩ = some q3.vp := hBB4.cell 0 (by simp); have z7 := hBB4.free 0))
    all_goals
     obtain ⟨R4, hP4, hB4⟩ := HP3.out.point hf hbR3 (vp := .slice (some ⟨g', 0, none⟩) (q.pts.length + 1) cap') (by rw [E3.out.2.1, E3.out.2.2.2]; exact hownD) (by rw [E3.out.1, Hvp.out]; exact hgrowD) (by rw [E3.out.1, Hvp.out]; exact hatF (by simpa using hatD))
     have hgp : (wC.alloc (.cells #[.int .i64 f.x, .int .i64 f.y] 61)).drew.grownBy wD q.vp.ownBlock := by rw [Hvp.out]; exact hgrowD
     have XT4 := (HXT3.out.kept hgp (fun e => hpl e.symm)).kept (setCell_grown wD B 0 (.slice (some ⟨g', 0, none⟩) (q.pts.length + 1) cap')) (fun e => by injection e with e; omega)
     have hat4 : (Value.slice (some ⟨g', 0, none⟩) (q.pts.length + 1) cap').ownBlock ≠ some (w.heap.size + 1) := by
      have h1 : q.vp.ownBlock = some g' ∨ g' = wC.heap.size + 1 := by rw [Hvp.out]; simpa using hatD
      have h2 := XT3.lt
      intro e
      simp [Value.ownBlock] at e
      rcases h1 with h | h
      ·rw [e] at h; exact hpl h
      ·omega
     have HCut : Hid (CutA B w (jnPts q f) (jnSs q f) t (wD.setCell ⟨B, 0, none⟩ (.slice (some ⟨g', 0, none⟩) (q.pts.length + 1) cap'))) :=
      ⟨⟨_, hP4, by show q3.pts ++ [f] = _; rw [E3.out.2.1]; unfold jnPts; rw [if_neg (by rw [hj]; decide)], by show q3.ss = _; rw [E3.out.2.2.1]; unfold jnSs; rw [if_neg (by rw [hj]; decide)], HB3.out.trans hB4, XT4, hat4⟩⟩
     clear hP4 hB4 hownD hgrowD hatD hBB4 y7 z7 hgp XT4
     go_wp2_with fail
     go_meet
     case rel => exact HCut.out
 case rest =>
  obtain ⟨q1, hP1, e1, e2, hB1, X1, hp1⟩ := hcut.out
  obtain ⟨w2, rfl⟩ : ∃ V, V = wc := ⟨_, rfl⟩
  have hl1 : q1.pts.length ≤ 1000001 := by
   rw [e1]
   unfold jnPts
   split
   ·omega
   ·simp; omega
  have p0 : w2.cell? ⟨w.heap.size + 1, 0, none⟩ = some (.int .i64 t.x) := X1.cell 0 (by simp)
  have p1 : w2.cell? ⟨w.heap.size + 1, 1, none⟩ = some (.int .i64 t.y) := X1.cell 1 (by simp)
  have hTl := X1.lt
  obtain ⟨ra, rc, hvs⟩ := own_shape hP1.pts.own
  have g1 : w2.cell? ⟨B, 0, none⟩ = some q1.vp := hP1.box.cell 0 (by simp)
  have hBl : B < w2.heap.size := hP1.box.lt
  have hown : (w2.alloc (.cells #[.int .i64 t.x, .int .i64 t.y] 61)).drew.ownsRow (B + 1) 61 2 q1.vp q1.pts.length (recs q1.R q1.pts.length) := (hP1.pts.own.alloc _).drew
  have hbR : Bel w2 (w2.alloc (.cells #[.int .i64 t.x, .int .i64 t.y] 61)).drew := (bel_alloc (Bel.refl w2) _).drew
  have HBx : Hid (Blk (w2.alloc (.cells #[.int .i64 t.x, .int .i64 t.y] 61)).drew B [q1.vp, q1.vs, .bool q1.op]) := hP1.box.bel hbR
  have hGr := own_off hP1.pts.own
  rw [hvs] at g1 hown hGr
  have Hvs : Hid (q1.vp = .slice ra q1.pts.length rc) := hvs
  have HP1 : Hid (Pcs B w2 q1) := hP1
  have He1 : Hid (q1.pts = jnPts q f) := e1
  have He2 : Hid (q1.ss = jnSs q f) := e2
  clear hP1 hvs hcut e1 e2 X1 XF XT hPb hne
  go_wp2
  go_region_law (first
   | (refine step_append_lies _ rfl _ _ _ rfl (B + 1) 61 i1 (.agg #[.int .i64 0, .int .i64 0]) 2 16 Tryz.underlying54 hi1 hy0 hy1 hy2 rfl (by decide) (.slice ra q1.pts.length rc) q1.pts.length (recs q1.R q1.pts.length) (by rfl) hown ⟨w2.heap.size, 0, none⟩ 1 1 [.int .i64 t.x, .int .i64 t.y] (by rfl) (by rfl) (World.news_of_block (cs := #[.int .i64 t.x, .int .i64 t.y]) (t := 61) (fr := (0, 0)) (heap_alloc_new w2 _)) (by simp [Value.oneCell']) (by omega) (by unfold maxLen; omega) (by omega) (by simp; omega) (w2.heap.size + 1) (by simp) ?_; intro g cap wB hownB hgrow hat _; have hBB2 := HBx.out.kept hgrow hGr; have y6 : wB.cell? ⟨B, 0, none⟩ = some q1.vp := hBB2.cell 0 (by simp); have z6 := hBB2.free 0))
  all_goals
   obtain ⟨R3, hP3, hB3⟩ := HP1.out.point ht hbR (vp := .slice (some ⟨g, 0, none⟩) (q1.pts.length + 1) cap) hownB (by rw [Hvs.out]; exact hgrow) (by rw [Hvs.out]; exact hatF (by simpa using hat))
   obtain ⟨hP4, hB4⟩ := hP3.flag true
   obtain ⟨wC, HC⟩ : ∃ W, Hid (W = wB.setCell ⟨B, 0, none⟩ (.slice (some ⟨g, 0, none⟩) (q1.pts.length + 1) cap)) := ⟨_, (rfl : wB.setCell ⟨B, 0, none⟩ (.slice (some ⟨g, 0, none⟩) (q1.pts.length + 1) cap) = _)⟩
   have Hout : Hid (AddOut B w q f t (.returned (.tuple #[])) ((wB.setCell ⟨B, 0, none⟩ (.slice (some ⟨g, 0, none⟩) (q1.pts.length + 1) cap)).setCell ⟨B, 2, none⟩ (.bool true))) :=
    ⟨⟨_, rfl, hP4, by show q1.pts ++ [t] = _; rw [He1.out], He2.out, rfl, hB1.trans (hB3.trans hB4)⟩⟩
   have k2 := hP3.box.cell 2 (by simp)
   have k3 := hP3.box.free 2
   have k4 := hP3.box.lt
   simp only [List.getElem_cons_zero, List.getElem_cons_succ] at k2
   rw [← HC.out] at Hout k2 k3 k4
   clear hP3 hP4 hB3 hB4 hownB hgrow hat hown hBB2 y6 z6 HBx
   rw [← HC.out]
   go_wp2
   exact bodyPost_ret (v := .tuple #[]) (by simp [results, Tryz.results99, go_sem]) rfl Hout.out
end Go.Proofs.YtldfcnlhjjiihaaGreat
