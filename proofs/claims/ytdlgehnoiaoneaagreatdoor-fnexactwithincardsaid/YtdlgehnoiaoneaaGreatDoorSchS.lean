/-
  A search is begun and runs to its end: begin: contract.
-/
import Derived.Test.YtdlgehnoiaoneaaGreatDoorGA
import Derived.Test.YtdlgehnoiaoneaaGreatDoorGO
import Derived.Laws.EntriesVeiled
namespace Go.Proofs.YtdlgehnoiaoneaaGreatDoor
open Go.RowKit Go.Maps

/-- What begin tells. -/
structure BegOut (w : World) (S : SrS) (g : GraphD) (e : Ending) (w' : World) : Prop where
 out : ∃ base P vl s Ls D, e = .returned (.pointer (some ⟨P, 0, none⟩)) ∧ SJ S g S.start D s Ls ∧ s.pd = [] ∧ St4 base P S vl w' s ∧ w.heap.size ≤ base ∧ Bel w w'
theorem Stc.mono {base base' : Nat} {S : SrS} {g : GraphD} {b1 : List Nat} {nb : Nat} {w : World} (h : Stc base S g b1 nb w) (hb : base ≤ base') : Stc base' S g b1 nb w :=
 ⟨h.roads, fun x hx => Nat.lt_of_lt_of_le (h.low x hx) hb, h.winds, Nat.lt_of_lt_of_le h.wlow hb, h.bans, Nat.lt_of_lt_of_le h.blow hb, h.len, h.ok⟩
/-- The rows of a network, wherever one looks. -/
def RwS (W : World) (lo Bo : Nat) (Ls : List (List Nat)) : Prop :=
 ∀ k (h : k < Ls.length), ∃ a c, ∀ w', Bel W w' → w'.cell? ⟨Bo, k, none⟩ = some (.slice a Ls[k].length c) ∧ w'.ownsRow lo 2 1 (.slice a Ls[k].length c) Ls[k].length (intsN Ls[k]) ∧ Bo < w'.heap.size
theorem RwS.of {lo n : Nat} {W : World} {B : Bool → Nat} {V : Bool → Nat → Value} {F : Bool → Nat → List Nat} (h : Tabs lo W B n V F) (t : Bool) {Ls : List (List Nat)} (hL : Ls = (List.range n).map (F t)) : RwS W lo (B t) Ls := fun k hk => by
 subst hL
 have hkn : k < n := by simpa using hk
 have hr := h.rows t k hkn
 obtain ⟨a, c, hv⟩ := own_shape hr
 refine ⟨a, c, fun w' hb => ?_⟩
 have h' := h.bel hb
 have h1 := h'.cell t k hkn
 have h2 := h'.rows t k hkn
 rw [hv] at h1 h2
 have e : ((List.range n).map (F t))[k] = F t k := by simp
 rw [e]
 refine ⟨h1, h2, ?_⟩
 have := h'.lt t
 have := h'.sz
 omega

set_option maxRecDepth 100000 in
set_option maxHeartbeats 4000000 in
theorem begin_any (S : SrS) (lo nb : Nat) (V : Bool → Nat → Value) (g : GraphD) (b1 : List Nat) (p Bo : Nat) (w : World) (hT : Tabs lo w (fun t => cond t S.Bb S.Be) S.n0 V (bgF g.roads S.n1)) (hC : Stc w.heap.size S g b1 nb w) (hn0 : g.places.length = S.n0) (hp : p < S.n0) (hst : S.start = (p : Int)) (hBo : cond (!S.back) S.Bb S.Be = Bo) :
  Calls Tryz.prog 70 #[.agg #[.slice S.a0 S.n0 S.c0, .slice S.a1 S.n1 S.c1, .slice S.a2 S.n2 S.c2, .slice (some ⟨S.Bb, 0, none⟩) S.n0 S.n0, .slice (some ⟨S.Be, 0, none⟩) S.n0 S.n0, .map (some S.M), .slice (some ⟨S.Wd, 0, none⟩) S.n1 S.n1], .bool S.back, .slice (some ⟨Bo, 0, none⟩) S.n0 S.n0, .int .i64 S.start] w fun e w' => BegOut w S g e w' := by
 obtain ⟨i0, hi0, hz0, hz1, hz2⟩ := info_parts infoSl
 have hl := hC.len
 have hg := hC.ok
 have hN : S.n1 ≤ 8000 := by rw [← hl]; exact hg.1.2.1
 have hP0 : S.n0 ≤ 5000 := by rw [← hn0]; exact hg.1.1
 have hRJ := runJ (S := S) (g := g) (st := (p : Int)) hg hl hn0
 obtain ⟨W, HW⟩ : ∃ W, Hid (W = w.alloc (.cells #[.slice S.a0 S.n0 S.c0, .slice S.a1 S.n1 S.c1, .slice S.a2 S.n2 S.c2, .slice (some ⟨S.Bb, 0, none⟩) S.n0 S.n0, .slice (some ⟨S.Be, 0, none⟩) S.n0 S.n0, .map (some S.M), .slice (some ⟨S.Wd, 0, none⟩) S.n1 S.n1] 91)) := ⟨_, (rfl : w.alloc (.cells #[.slice S.a0 S.n0 S.c0, .slice S.a1 S.n1 S.c1, .slice S.a2 S.n2 S.c2, .slice (some ⟨S.Bb, 0, none⟩) S.n0 S.n0, .slice (some ⟨S.Be, 0, none⟩) S.n0 S.n0, .map (some S.M), .slice (some ⟨S.Wd, 0, none⟩) S.n1 S.n1] 91) = _)⟩
 have hBW : Bel w W := by rw [HW.out]; exact bel_alloc (Bel.refl _) _
 have XW : Blk W w.heap.size [.slice S.a0 S.n0 S.c0, .slice S.a1 S.n1 S.c1, .slice S.a2 S.n2 S.c2, .slice (some ⟨S.Bb, 0, none⟩) S.n0 S.n0, .slice (some ⟨S.Be, 0, none⟩) S.n0 S.n0, .map (some S.M), .slice (some ⟨S.Wd, 0, none⟩) S.n1 S.n1] := by rw [HW.out]; exact Blk.new w [.slice S.a0 S.n0 S.c0, .slice S.a1 S.n1 S.c1, .slice S.a2 S.n2 S.c2, .slice (some ⟨S.Bb, 0, none⟩) S.n0 S.n0, .slice (some ⟨S.Be, 0, none⟩) S.n0 S.n0, .map (some S.M), .slice (some ⟨S.Wd, 0, none⟩) S.n1 S.n1] _
 obtain ⟨nw, Hnw⟩ : ∃ n, Hid (w.heap.size = n) := ⟨_, (rfl : w.heap.size = _)⟩
 obtain ⟨base, Hbase⟩ : ∃ n, Hid (W.heap.size = n) := ⟨_, (rfl : W.heap.size = _)⟩
 have HBe : Hid (w.heap.size ≤ base) := (by rw [← Hbase.out]; exact hBW.out.size : w.heap.size ≤ base)
 have HC : Hid (Stc base S g b1 nb W) := (hC.bel hBW).mono HBe.out
 obtain ⟨Ls, HLs⟩ : ∃ l, Hid (l = (List.range S.n0).map (bgF g.roads S.n1 (!S.back))) := ⟨_, (rfl : (List.range S.n0).map (bgF g.roads S.n1 (!S.back)) = _)⟩
 have HLl : Hid (Ls.length = S.n0) := (by rw [HLs.out]; simp : Ls.length = S.n0)
 have HLa : Hid (∀ k (h : k < Ls.length), Ls[k] = bgF g.roads S.n1 (!S.back) k) := (fun k h => by simp only [HLs.out]; simp : ∀ k (h : k < Ls.length), Ls[k] = bgF g.roads S.n1 (!S.back) k)
 have HLm : Hid (∀ k (h : k < Ls.length), Ls[k].length ≤ 8000) := (fun k h => by rw [HLa.out k h]; exact Nat.le_trans (bgF_len _ _ _ _) hN : ∀ k (h : k < Ls.length), Ls[k].length ≤ 8000)
 have HR : Hid (RwS W lo Bo Ls) := (by
  have h := RwS.of (hT.bel hBW) (!S.back) HLs.out
  rw [← hBo]
  exact h : RwS W lo Bo Ls)
 have HXW : Hid (Blk W nw [.slice S.a0 S.n0 S.c0, .slice S.a1 S.n1 S.c1, .slice S.a2 S.n2 S.c2, .slice (some ⟨S.Bb, 0, none⟩) S.n0 S.n0, .slice (some ⟨S.Be, 0, none⟩) S.n0 S.n0, .map (some S.M), .slice (some ⟨S.Wd, 0, none⟩) S.n1 S.n1]) := (by rw [← Hnw.out]; exact XW : Blk W nw _)
 have HBW : Hid (Bel w W) := hBW
 have HRJ : Hid (RunJ S g (JJ S g (p : Int))) := hRJ
 have HG : Hid (graphP g) := hg
 have HL1 : Hid (g.roads.length = S.n1) := hl
 have Hst : Hid (S.start = (p : Int)) := hst
 clear hT hC hBo hBW XW hRJ hg hl hn0 hst
 go_enter Tryz.func70, Tryz.ntmps70
 go_upto_region 1 with fail
 rw [← HW.out, Hnw.out]
 go_cut [9] (fun t wx => Beg1 base S W t wx)
 case first =>
  refine wp_region_noPanic ?_
  refine wp_region_held_drew (S := (fun w' => w'.cell? ⟨nw, 0, none⟩ = some (.slice S.a0 S.n0 S.c0) ∧ w'.cell? ⟨nw, 1, none⟩ = some (.slice S.a1 S.n1 S.c1) ∧ w'.cell? ⟨nw, 2, none⟩ = some (.slice S.a2 S.n2 S.c2) ∧ w'.cell? ⟨nw, 3, none⟩ = some (.slice (some ⟨S.Bb, 0, none⟩) S.n0 S.n0) ∧ w'.cell? ⟨nw, 4, none⟩ = some (.slice (some ⟨S.Be, 0, none⟩) S.n0 S.n0) ∧ w'.cell? ⟨nw, 5, none⟩ = some (.map (some S.M)) ∧ w'.cell? ⟨nw, 6, none⟩ = some (.slice (some ⟨S.Wd, 0, none⟩) S.n1 S.n1))) (by kernel_rfl) (⟨HXW.out.cell 0 (by simp), HXW.out.cell 1 (by simp), HXW.out.cell 2 (by simp), HXW.out.cell 3 (by simp), HXW.out.cell 4 (by simp), HXW.out.cell 5 (by simp), HXW.out.cell 6 (by simp)⟩) (fun hHeld => ?_)
  have hY0 : Bel W W.drew := (Bel.refl _).drew
  have hnl : nw < W.drew.heap.size := HXW.out.lt
  have hYs : W.drew.heap.size = base := Hbase.out
  generalize W.drew = Y at hHeld hY0 hnl hYs ⊢
  refine tk 0 hHeld ?_; refine tk 1 hHeld ?_; refine tk 2 hHeld ?_; refine tk 3 hHeld ?_; refine tk 5 hHeld ?_; refine tk 6 hHeld ?_
  refine tk 7 hHeld ?_; refine tk 8 hHeld ?_; refine tk 9 hHeld ?_
  refine rd1 4 (fun K hK => ?_)
  go_simp
  refine hK.out _ _ (⟨bel_cellM (bel_alloc (Bel.refl Y) _) (by omega) hHeld.1, bel_cellM (bel_alloc (Bel.refl Y) _) (by omega) hHeld.2.1, bel_cellM (bel_alloc (Bel.refl Y) _) (by omega) hHeld.2.2.1, bel_cellM (bel_alloc (Bel.refl Y) _) (by omega) hHeld.2.2.2.1, bel_cellM (bel_alloc (Bel.refl Y) _) (by omega) hHeld.2.2.2.2.1, bel_cellM (bel_alloc (Bel.refl Y) _) (by omega) hHeld.2.2.2.2.2.1, bel_cellM (bel_alloc (Bel.refl Y) _) (by omega) hHeld.2.2.2.2.2.2⟩) ?_; clear hK K hHeld; intro hHeld
  try simp only [Act.put, List.setIfInBounds_toArray, List.set_cons_zero, List.set_cons_succ]
  have hX : Blk (Y.alloc (.cells #[.int .i64 9223372036854775807, .int .i64 0] 112)) Y.heap.size [.int .i64 noT, .int .i64 0] := Blk.new Y [.int .i64 noT, .int .i64 0] _
  have hYA : Bel Y (Y.alloc (.cells #[.int .i64 9223372036854775807, .int .i64 0] 112)) := bel_alloc (Bel.refl Y) _
  have hyl : Y.heap.size < (Y.alloc (.cells #[.int .i64 9223372036854775807, .int .i64 0] 112)).heap.size := hX.lt
  rw [hYs] at hX hyl hnl
  try rw [hYs]
  generalize Y.alloc (.cells #[.int .i64 9223372036854775807, .int .i64 0] 112) = YA at *
  refine rd1 10 (fun K hK => ?_)
  go_simp
  with_reducible refine (repeat_any ⟨noT, 0⟩ base 1 S.n1 YA hX (by omega) (Nat.le_refl _)).mono ?_
  rintro e YB ⟨rfl, hOB, hbB⟩
  go_wp2_with fail
  refine hK.out _ _ (⟨bel_cellM (hbB) (by omega) hHeld.1, bel_cellM (hbB) (by omega) hHeld.2.1, bel_cellM (hbB) (by omega) hHeld.2.2.1, bel_cellM (hbB) (by omega) hHeld.2.2.2.1, bel_cellM (hbB) (by omega) hHeld.2.2.2.2.1, bel_cellM (hbB) (by omega) hHeld.2.2.2.2.2.1, bel_cellM (hbB) (by omega) hHeld.2.2.2.2.2.2⟩) ?_; clear hK K hHeld; intro hHeld
  try simp only [Act.put, List.setIfInBounds_toArray, List.set_cons_zero, List.set_cons_succ]
  obtain ⟨gb, Hgb⟩ : ∃ n, Hid (YA.heap.size = n) := ⟨_, (rfl : YA.heap.size = _)⟩
  rw [Hgb.out] at hOB hyl
  try rw [Hgb.out]
  have hnb : nw < YB.heap.size := (by have := hbB.out.size; have := Hgb.out; omega)
  refine tk 11 hHeld ?_
  refine rd1 12 (fun K hK => ?_)
  go_simp
  refine hK.out _ _ (⟨bel_cellM (bel_alloc (Bel.refl YB) _) (by omega) hHeld.1, bel_cellM (bel_alloc (Bel.refl YB) _) (by omega) hHeld.2.1, bel_cellM (bel_alloc (Bel.refl YB) _) (by omega) hHeld.2.2.1, bel_cellM (bel_alloc (Bel.refl YB) _) (by omega) hHeld.2.2.2.1, bel_cellM (bel_alloc (Bel.refl YB) _) (by omega) hHeld.2.2.2.2.1, bel_cellM (bel_alloc (Bel.refl YB) _) (by omega) hHeld.2.2.2.2.2.1, bel_cellM (bel_alloc (Bel.refl YB) _) (by omega) hHeld.2.2.2.2.2.2⟩) ?_; clear hK K hHeld; intro hHeld
  try simp only [Act.put, List.setIfInBounds_toArray, List.set_cons_zero, List.set_cons_succ]
  refine tk 13 hHeld ?_
  refine wpAnyH_done (by kernel_rfl) ?_ _
  refine NoPanic.normal ?_
  go_wp2_with fail
  go_meet
  case rel => exact ⟨_, gb, _, rfl, World.ownsRow_lit YB _ 1 (by have := hbB.out.size; have := Hgb.out; omega) (by decide) rfl, own_lo (own_bel hOB (bel_alloc (Bel.refl YB) _)) (by omega), bel_alloc (bel_step (bel_step hY0 hYA) hbB) _⟩
 case rest =>
  obtain ⟨P, gb, vf, rfl, hP1, hB1, hbW⟩ := hcut.out
  obtain ⟨wA, rfl⟩ : ∃ V, V = wc := ⟨_, rfl⟩
  clear hcut
  have q13 : wA.cell? ⟨P, 13, none⟩ = some vf := by rw [hP1.cellAt 13 (by omega)]; rfl
  have f13 : wA.frozen? ⟨P, 13, none⟩ = false := World.ownsRow.frozenAt hP1 13
  have pl := (World.ownsRow.lt hP1 P rfl).2
  have HB0 : Hid (BegL base P gb S W Ls 0 (wA.setCell ⟨P, 13, none⟩ (.func (.func 83) #[.pointer (some ⟨P, 0, none⟩)] #[]))) := BegL.first Ls hP1 hB1 hbW (by rw [Hbase.out]; exact Nat.le_refl _)
  clear hP1 hB1 hbW
  go_wp2
  obtain ⟨wB, HwB⟩ : ∃ X, Hid (X = wA.setCell ⟨P, 13, none⟩ (.func (.func 83) #[.pointer (some ⟨P, 0, none⟩)] #[])) := ⟨_, (rfl : wA.setCell ⟨P, 13, none⟩ (.func (.func 83) #[.pointer (some ⟨P, 0, none⟩)] #[]) = _)⟩
  rw [← HwB.out] at HB0 ⊢
  clear HwB q13 f13 pl
  go_loopw [11, 35] (fun _ i wr => ∃ k : Nat, k ≤ S.n0 ∧ i = .int .i64 k ∧ Hid (BegL base P gb S W Ls k wr)) (fun _ i _ => S.n0 - (intOf i).toNat)
  case atStart => exact ⟨0, Nat.zero_le _, rfl, HB0⟩
  case round =>
   clear HB0
   obtain ⟨k, hk, rfl, HB⟩ := hrel
   by_cases hlt : k < S.n0
   ·have hkl : k < Ls.length := by rw [HLl.out]; exact hlt
    obtain ⟨vl, hP, hB, hL, hBr⟩ := HB.out.out
    obtain ⟨hs, h1, h2, h3⟩ := hL
    have HK : Hid ((Ls.take k).length = k) := (by rw [List.length_take]; omega : (Ls.take k).length = k)
    rw [HK.out] at h1
    obtain ⟨la, lc, rfl⟩ := own_shape h1
    obtain ⟨va, vc, hrow⟩ := HR.out k hkl
    obtain ⟨row, Hrow⟩ : ∃ l, Hid (Ls[k] = l) := ⟨_, (rfl : Ls[k] = _)⟩
    have hmm : row.length ≤ 8000 := by rw [← Hrow.out]; exact HLm.out k hkl
    rw [Hrow.out] at hrow
    obtain ⟨m, Hm⟩ : ∃ l, Hid (row.length = l) := ⟨_, (rfl : row.length = _)⟩
    rw [Hm.out] at hrow hmm
    have Hrow2 : Hid (∀ w', Bel W w' → w'.ownsRow lo 2 1 (.slice va m vc) m (intsN row)) := fun w' h => (hrow w' h).2.1
    obtain ⟨o1, _, o2⟩ := hrow wr hBr
    have hltI : (k : Int) < (S.n0 : Int) := by omega
    have HTk : Hid (Ls.take (k + 1) = Ls.take k ++ [row]) := (by rw [List.take_succ_eq_append_getElem hkl, Hrow.out] : Ls.take (k + 1) = Ls.take k ++ [row])
    have HP : Hid (SrP base S P wr (.slice (some ⟨gb, 0, none⟩) S.n1 S.n1) (.slice la k lc) (.slice none 0 0) (.slice none 0 0)) := hP
    have HBo : Hid (wr.ownsRow base 112 2 (.slice (some ⟨gb, 0, none⟩) S.n1 S.n1) S.n1 (repC ⟨noT, 0⟩ S.n1)) := hB
    have HT : Hid (wr.ownsRow base 46 1 (.slice la k lc) k hs) := h1
    have H2 : Hid (∀ w', Bel wr w' → ∀ p (h : p < (Ls.take k).length), ∃ a c, hs[p]? = some (.slice a (Ls.take k)[p].length c) ∧ (0 < (Ls.take k)[p].length → w'.ownsRow base 2 1 (.slice a (Ls.take k)[p].length c) (Ls.take k)[p].length (intsN (Ls.take k)[p]))) := fun w' hb p h => by
     obtain ⟨a, c, e, hr⟩ := h2 p h
     exact ⟨a, c, e, fun h0 => own_bel (hr h0) hb⟩
    have H3 : Hid (∀ p q (hp : p < (Ls.take k).length) (hq : q < (Ls.take k).length), p ≠ q → 0 < (Ls.take k)[p].length → 0 < (Ls.take k)[q].length → hs[p]?.bind Value.ownBlock ≠ hs[q]?.bind Value.ownBlock) := h3
    have HBr : Hid (Bel W wr) := hBr
    have HbP : Hid (base ≤ P) := (SrP.lt hP).1
    clear hP hB h1 h2 h3 hBr hrow HB
    go_upto_region 6 with fail
    refine wp_region_noPanic ?_
    refine wp_region_held_drew (S := (fun _ => True)) (by kernel_rfl) (trivial) (fun hHeld => ?_)
    have hY0 : Bel wr wr.drew := (Bel.refl _).drew
    generalize wr.drew = Y at hHeld hY0 ⊢
    have hBW0 : Bel W Y := bel_step HBr.out hY0
    have hPY := own_bel HP.out hY0
    have hBY := own_bel HBo.out hY0
    have hTY := own_bel HT.out hY0
    have hRY := Hrow2.out Y hBW0
    refine tk 0 hHeld ?_; refine tk 1 hHeld ?_; refine tk 2 hHeld ?_; refine tk 3 hHeld ?_; refine tk 5 hHeld ?_
    have y10 : Y.cell? ⟨P, 10, none⟩ = some (.slice la k lc) := SrP.at hPY 10 (by omega)
    have yl := (SrP.lt hPY).2
    refine rd2 4 6 (fun K hK => ?_) (fun K hK => ?_)
    ·go_simp
     refine hK.out _ _ (trivial) ?_; clear hK K hHeld; intro hHeld
     try simp only [Act.put, List.setIfInBounds_toArray, List.set_cons_zero, List.set_cons_succ]
     clear y10 yl
     refine rd1 6 (fun K hK => ?_)
     go_simp
     refine (clone_any lo (.slice va m vc) row m Y hRY Hm.out (by omega)).mono ?_
     rintro e Y1 ⟨ca, cc, rfl, hC1, hb1⟩
     go_wp2_with fail
     refine hK.out _ _ (trivial) ?_; clear hK K hHeld; intro hHeld
     try simp only [Act.put, List.setIfInBounds_toArray, List.set_cons_zero, List.set_cons_succ]
     have hPY1 := own_bel hPY hb1
     have hBY1 := own_bel hBY hb1
     have hTY1 := own_bel hTY hb1
     refine rd1 7 (fun K hK => ?_)
     go_simp
     refine hK.out _ _ (trivial) ?_; clear hK K hHeld; intro hHeld
     try simp only [Act.put, List.setIfInBounds_toArray, List.set_cons_zero, List.set_cons_succ]
     have hbA : Bel Y1 (Y1.alloc (.cells #[.slice ca m cc] 46)) := bel_alloc (Bel.refl Y1) _
     have hNB := heap_alloc_new Y1 (.cells #[.slice ca m cc] 46)
     obtain ⟨n1, Hn1⟩ : ∃ n, Hid (Y1.heap.size = n) := ⟨_, (rfl : Y1.heap.size = _)⟩
     rw [Hn1.out] at hNB
     try rw [Hn1.out]
     generalize Y1.alloc (.cells #[.slice ca m cc] 46) = YA at *
     have hPYA := own_bel hPY1 hbA
     have hBYA := own_bel hBY1 hbA
     have hTYA := own_bel hTY1 hbA
     refine rd1 8 (fun K hK => ?_)
     refine step_app _ rfl _ _ _ rfl base 46 i0 (.slice none 0 0) 1 24 Tryz.underlying76 hi0 hz0 hz1 hz2 rfl (by decide) (.slice la k lc) k hs (by rfl) hTYA ⟨n1, 0, none⟩ 1 1 [.slice ca m cc] (by rfl) (by rfl) (World.news_of_block (cs := #[.slice ca m cc]) hNB) (by simp [Value.oneCell']) (by unfold maxLen; omega) (by omega) (by have := (World.ownsRow.lt hPYA P rfl); omega) ?_
     intro vl2 Y2 hO2 hg2
     obtain ⟨la2, lc2, rfl⟩ := own_shape hO2
     have hP2 := own_keepO hPYA hTYA (by decide) hg2
     have hB2 := own_keepO hBYA hTYA (by decide) hg2
     have hL2 := Lft.push HK.out Hm.out hTYA (H2.out YA (bel_step hY0 (bel_step hb1 hbA))) H3.out (Lft.low (H2.out Y hY0)) (by have := World.ownsRow.lt hPY P rfl; have := hBW0.out.size; have := Hbase.out; omega) (fun h0 => own_bel (hC1 h0) hbA) hO2 hg2
     have hbZ : Bel W Y2 := bel_grow (bel_step hBW0 (bel_step hb1 hbA)) hg2 (fun j e => by have := (hTYA.lt j e).1; have := Hbase.out; omega)
     refine hK.out _ _ (trivial) ?_; clear hK K hHeld; intro hHeld
     try simp only [Act.put, List.setIfInBounds_toArray, List.set_cons_zero, List.set_cons_succ]
     refine tk 9 hHeld ?_; refine tk 10 hHeld ?_
     have q10 : Y2.cell? ⟨P, 10, none⟩ = some (.slice la k lc) := SrP.at hP2 10 (by omega)
     have f10 : Y2.frozen? ⟨P, 10, none⟩ = false := World.ownsRow.frozenAt hP2 10
     have ql := (SrP.lt hP2).2
     refine rd1 11 (fun K hK => ?_)
     go_simp
     refine hK.out _ _ (trivial) ?_; clear hK K hHeld; intro hHeld
     try simp only [Act.put, List.setIfInBounds_toArray, List.set_cons_zero, List.set_cons_succ]
     have HF : Hid (BegL base P gb S W Ls (k + 1) (Y2.setCell ⟨P, 10, none⟩ (.slice la2 (k + 1) lc2))) := ⟨.slice la2 (k + 1) lc2, (World.ownsRow.stored hP2 10 _).1, own_setO hB2 hP2 (by decide) 10 _, (by rw [HTk.out]; exact hL2.putE hP2 (by decide) 10 _), bel_set hbZ (by show W.heap.size ≤ P; have := HbP.out; have := Hbase.out; omega) _⟩
     clear q10 f10 ql hL2 hP2 hB2 hbZ hO2 hg2
     refine wpAnyH_done (by kernel_rfl) ?_ _
     refine NoPanic.normal ?_
     go_wp2
     go_roundw
     case rel => exact ⟨k + 1, by omega, by go_num, HF⟩
     case measure => simp [intOf]; omega
    ·go_simp
     refine (clone_any lo (.slice va m vc) row m Y hRY Hm.out (by omega)).mono ?_
     rintro e Y1 ⟨ca, cc, rfl, hC1, hb1⟩
     go_wp2_with fail
     refine hK.out _ _ (trivial) ?_; clear hK K hHeld; intro hHeld
     try simp only [Act.put, List.setIfInBounds_toArray, List.set_cons_zero, List.set_cons_succ]
     have hPY1 := own_bel hPY hb1
     have hBY1 := own_bel hBY hb1
     have hTY1 := own_bel hTY hb1
     clear y10 yl
     have y10 : Y1.cell? ⟨P, 10, none⟩ = some (.slice la k lc) := SrP.at hPY1 10 (by omega)
     have yl := (SrP.lt hPY1).2
     refine rd2 4 7 (fun K hK => ?_) (fun K hK => ?_)
     ·go_simp
      refine hK.out _ _ (trivial) ?_; clear hK K hHeld; intro hHeld
      try simp only [Act.put, List.setIfInBounds_toArray, List.set_cons_zero, List.set_cons_succ]
      clear y10 yl
      refine rd1 7 (fun K hK => ?_)
      go_simp
      refine hK.out _ _ (trivial) ?_; clear hK K hHeld; intro hHeld
      try simp only [Act.put, List.setIfInBounds_toArray, List.set_cons_zero, List.set_cons_succ]
      have hbA : Bel Y1 (Y1.alloc (.cells #[.slice ca m cc] 46)) := bel_alloc (Bel.refl Y1) _
      have hNB := heap_alloc_new Y1 (.cells #[.slice ca m cc] 46)
      obtain ⟨n1, Hn1⟩ : ∃ n, Hid (Y1.heap.size = n) := ⟨_, (rfl : Y1.heap.size = _)⟩
      rw [Hn1.out] at hNB
      try rw [Hn1.out]
      generalize Y1.alloc (.cells #[.slice ca m cc] 46) = YA at *
      have hPYA := own_bel hPY1 hbA
      have hBYA := own_bel hBY1 hbA
      have hTYA := own_bel hTY1 hbA
      refine rd1 8 (fun K hK => ?_)
      refine step_app _ rfl _ _ _ rfl base 46 i0 (.slice none 0 0) 1 24 Tryz.underlying76 hi0 hz0 hz1 hz2 rfl (by decide) (.slice la k lc) k hs (by rfl) hTYA ⟨n1, 0, none⟩ 1 1 [.slice ca m cc] (by rfl) (by rfl) (World.news_of_block (cs := #[.slice ca m cc]) hNB) (by simp [Value.oneCell']) (by unfold maxLen; omega) (by omega) (by have := (World.ownsRow.lt hPYA P rfl); omega) ?_
      intro vl2 Y2 hO2 hg2
      obtain ⟨la2, lc2, rfl⟩ := own_shape hO2
      have hP2 := own_keepO hPYA hTYA (by decide) hg2
      have hB2 := own_keepO hBYA hTYA (by decide) hg2
      have hL2 := Lft.push HK.out Hm.out hTYA (H2.out YA (bel_step hY0 (bel_step hb1 hbA))) H3.out (Lft.low (H2.out Y hY0)) (by have := World.ownsRow.lt hPY P rfl; have := hBW0.out.size; have := Hbase.out; omega) (fun h0 => own_bel (hC1 h0) hbA) hO2 hg2
      have hbZ : Bel W Y2 := bel_grow (bel_step hBW0 (bel_step hb1 hbA)) hg2 (fun j e => by have := (hTYA.lt j e).1; have := Hbase.out; omega)
      refine hK.out _ _ (trivial) ?_; clear hK K hHeld; intro hHeld
      try simp only [Act.put, List.setIfInBounds_toArray, List.set_cons_zero, List.set_cons_succ]
      refine tk 9 hHeld ?_; refine tk 10 hHeld ?_
      have q10 : Y2.cell? ⟨P, 10, none⟩ = some (.slice la k lc) := SrP.at hP2 10 (by omega)
      have f10 : Y2.frozen? ⟨P, 10, none⟩ = false := World.ownsRow.frozenAt hP2 10
      have ql := (SrP.lt hP2).2
      refine rd1 11 (fun K hK => ?_)
      go_simp
      refine hK.out _ _ (trivial) ?_; clear hK K hHeld; intro hHeld
      try simp only [Act.put, List.setIfInBounds_toArray, List.set_cons_zero, List.set_cons_succ]
      have HF : Hid (BegL base P gb S W Ls (k + 1) (Y2.setCell ⟨P, 10, none⟩ (.slice la2 (k + 1) lc2))) := ⟨.slice la2 (k + 1) lc2, (World.ownsRow.stored hP2 10 _).1, own_setO hB2 hP2 (by decide) 10 _, (by rw [HTk.out]; exact hL2.putE hP2 (by decide) 10 _), bel_set hbZ (by show W.heap.size ≤ P; have := HbP.out; have := Hbase.out; omega) _⟩
      clear q10 f10 ql hL2 hP2 hB2 hbZ hO2 hg2
      refine wpAnyH_done (by kernel_rfl) ?_ _
      refine NoPanic.normal ?_
      go_wp2
      go_roundw
      case rel => exact ⟨k + 1, by omega, by go_num, HF⟩
      case measure => simp [intOf]; omega
     ·go_simp
      refine hK.out _ _ (trivial) ?_; clear hK K hHeld; intro hHeld
      try simp only [Act.put, List.setIfInBounds_toArray, List.set_cons_zero, List.set_cons_succ]
      have hbA : Bel Y1 (Y1.alloc (.cells #[.slice ca m cc] 46)) := bel_alloc (Bel.refl Y1) _
      have hNB := heap_alloc_new Y1 (.cells #[.slice ca m cc] 46)
      obtain ⟨n1, Hn1⟩ : ∃ n, Hid (Y1.heap.size = n) := ⟨_, (rfl : Y1.heap.size = _)⟩
      rw [Hn1.out] at hNB
      try rw [Hn1.out]
      generalize Y1.alloc (.cells #[.slice ca m cc] 46) = YA at *
      have hPYA := own_bel hPY1 hbA
      have hBYA := own_bel hBY1 hbA
      have hTYA := own_bel hTY1 hbA
      clear y10 yl
      have y10 : YA.cell? ⟨P, 10, none⟩ = some (.slice la k lc) := SrP.at hPYA 10 (by omega)
      have yl := (SrP.lt hPYA).2
      refine rd1 4 (fun K hK => ?_)
      go_simp
      refine hK.out _ _ (trivial) ?_; clear hK K hHeld; intro hHeld
      try simp only [Act.put, List.setIfInBounds_toArray, List.set_cons_zero, List.set_cons_succ]
      refine rd1 8 (fun K hK => ?_)
      refine step_app _ rfl _ _ _ rfl base 46 i0 (.slice none 0 0) 1 24 Tryz.underlying76 hi0 hz0 hz1 hz2 rfl (by decide) (.slice la k lc) k hs (by rfl) hTYA ⟨n1, 0, none⟩ 1 1 [.slice ca m cc] (by rfl) (by rfl) (World.news_of_block (cs := #[.slice ca m cc]) hNB) (by simp [Value.oneCell']) (by unfold maxLen; omega) (by omega) (by have := (World.ownsRow.lt hPYA P rfl); omega) ?_
      intro vl2 Y2 hO2 hg2
      obtain ⟨la2, lc2, rfl⟩ := own_shape hO2
      have hP2 := own_keepO hPYA hTYA (by decide) hg2
      have hB2 := own_keepO hBYA hTYA (by decide) hg2
      have hL2 := Lft.push HK.out Hm.out hTYA (H2.out YA (bel_step hY0 (bel_step hb1 hbA))) H3.out (Lft.low (H2.out Y hY0)) (by have := World.ownsRow.lt hPY P rfl; have := hBW0.out.size; have := Hbase.out; omega) (fun h0 => own_bel (hC1 h0) hbA) hO2 hg2
      have hbZ : Bel W Y2 := bel_grow (bel_step hBW0 (bel_step hb1 hbA)) hg2 (fun j e => by have := (hTYA.lt j e).1; have := Hbase.out; omega)
      refine hK.out _ _ (trivial) ?_; clear hK K hHeld; intro hHeld
      try simp only [Act.put, List.setIfInBounds_toArray, List.set_cons_zero, List.set_cons_succ]
      refine tk 9 hHeld ?_; refine tk 10 hHeld ?_
      have q10 : Y2.cell? ⟨P, 10, none⟩ = some (.slice la k lc) := SrP.at hP2 10 (by omega)
      have f10 : Y2.frozen? ⟨P, 10, none⟩ = false := World.ownsRow.frozenAt hP2 10
      have ql := (SrP.lt hP2).2
      refine rd1 11 (fun K hK => ?_)
      go_simp
      refine hK.out _ _ (trivial) ?_; clear hK K hHeld; intro hHeld
      try simp only [Act.put, List.setIfInBounds_toArray, List.set_cons_zero, List.set_cons_succ]
      have HF : Hid (BegL base P gb S W Ls (k + 1) (Y2.setCell ⟨P, 10, none⟩ (.slice la2 (k + 1) lc2))) := ⟨.slice la2 (k + 1) lc2, (World.ownsRow.stored hP2 10 _).1, own_setO hB2 hP2 (by decide) 10 _, (by rw [HTk.out]; exact hL2.putE hP2 (by decide) 10 _), bel_set hbZ (by show W.heap.size ≤ P; have := HbP.out; have := Hbase.out; omega) _⟩
      clear q10 f10 ql hL2 hP2 hB2 hbZ hO2 hg2
      refine wpAnyH_done (by kernel_rfl) ?_ _
      refine NoPanic.normal ?_
      go_wp2
      go_roundw
      case rel => exact ⟨k + 1, by omega, by go_num, HF⟩
      case measure => simp [intOf]; omega
   ·obtain ⟨vl, hS0, hL0, hBr⟩ := HB.out.last (by rw [HLl.out]; omega)
    have e : S.n0 = k := by omega
    have hltI : ¬ (k : Int) < (S.n0 : Int) := by omega
    have hpl : p < Ls.length := by rw [HLl.out]; exact hp
    have hpI : (p : Int) < (S.n0 : Int) := by omega
    obtain ⟨va, vc, hrow⟩ := HR.out p hpl
    have HRp : Hid (Ls[p] = bgF g.roads S.n1 (!S.back) p) := HLa.out p hpl
    have hmm : Ls[p].length ≤ 8000 := HLm.out p hpl
    obtain ⟨row, Hrow⟩ : ∃ l, Hid (Ls[p] = l) := ⟨_, (rfl : Ls[p] = _)⟩
    rw [Hrow.out] at hrow HRp hmm
    have HBI : Hid (∀ k, k ≤ row.length → BI g S.n1 row k (begS g S.n1 row k)) := (by
     rw [HRp.out]
     exact BI.all (bgF_nodup _ _ _ _) (fun x hx => bgF_mem hx) (fun x hx => by have := rd_time HG.out HL1.out hx; omega) : ∀ k, k ≤ row.length → BI g S.n1 row k (begS g S.n1 row k))
    have HRn : Hid (∀ x ∈ row, x < S.n1) := (fun x hx => by rw [HRp.out] at hx; exact bgF_mem hx : ∀ x ∈ row, x < S.n1)
    obtain ⟨m, Hm⟩ : ∃ l, Hid (row.length = l) := ⟨_, (rfl : row.length = _)⟩
    rw [Hm.out] at hrow hmm HBI
    obtain ⟨o1, _, o2⟩ := hrow wr hBr
    have Hrow2 : Hid (∀ w', Bel W w' → w'.ownsRow lo 2 1 (.slice va m vc) m (intsN row)) := fun w' h => (hrow w' h).2.1
    have HS0 : Hid (St4 base P S vl wr (begS g S.n1 row 0)) := hS0
    have HL0 : Hid (Lft base wr vl Ls) := hL0
    have HBr : Hid (Bel W wr) := hBr
    have Hst2 : Hid (S.start = (p : Int)) := Hst
    rw [Hst.out]
    clear hrow hS0 hL0 hBr e
    go_wp2
    obtain ⟨wC, rfl⟩ : ∃ V, V = wr := ⟨_, rfl⟩
    go_loopw [13, 56] (fun _ i wr => ∃ k : Nat, k ≤ m ∧ i = .int .i64 k ∧ Hid (St4 base P S vl wr (begS g S.n1 row k)) ∧ Hid (Fr4 base wC wr)) (fun _ i _ => m - (intOf i).toNat)
    case atStart => exact ⟨0, Nat.zero_le _, rfl, HS0, Fr4.refl _ _⟩
    case round =>
     clear HS0 o1 o2 hlt hltI hk
     obtain ⟨k, hk, rfl, HSr, HFr⟩ := hrel
     have HBk : Hid (Bel W wr) := Fr4.to_bel HBr.out HFr.out (by rw [Hbase.out]; exact Nat.le_refl _)
     by_cases hlt : k < m
     ·have hkl : k < row.length := by rw [Hm.out]; exact hlt
      have hro := Hrow2.out wr HBk.out
      obtain ⟨ga, gc, ev, _, hga⟩ := own_in hro (by omega)
      simp only [Value.slice.injEq, true_and] at ev
      obtain ⟨rfl, rfl⟩ := ev
      have hck : wr.cell? ⟨ga, k, none⟩ = some (.int .i64 (row[k] : Int)) := by
       rw [hro.cellAt k (by omega)]
       unfold intsN
       rw [List.getElem?_map, List.getElem?_eq_getElem hkl]; rfl
      have hxn : row[k] < S.n1 := HRn.out _ (List.getElem_mem hkl)
      have HBn : Hid (begS g S.n1 row (k + 1) = (begS g S.n1 row k).offer row[k] ⟨(rdAt g row[k]).time, 1⟩) := begS_succ g S.n1 row hkl
      obtain ⟨x, Hx⟩ : ∃ x, Hid (row[k] = x) := ⟨_, (rfl : row[k] = _)⟩
      rw [Hx.out] at hck hxn HBn
      have hxg : x < g.roads.length := by rw [HL1.out]; exact hxn
      have hti := rd_time HG.out HL1.out hxn
      obtain ⟨rb, off, f, ea, hrb, hrx⟩ := (HC.out.bel HBk.out).roads.out hxg
      obtain ⟨_, _, _, _, _, _, _, _, _, _, y3, _⟩ := hrx x hxg
      rw [← rdAt_eq hxg] at y3
      obtain ⟨T, HT⟩ : ∃ t, Hid ((rdAt g x).time = t) := ⟨_, (rfl : (rdAt g x).time = _)⟩
      rw [HT.out] at y3 hti HBn
      have k1 : wr.cell? ⟨nw, 1, none⟩ = some (.slice S.a1 S.n1 S.c1) := (HXW.out.bel HBk.out).cell 1 (by simp)
      rw [ea] at k1
      have kl := (HXW.out.bel HBk.out).lt
      have hxI : (x : Int) < (S.n1 : Int) := by omega
      have hkI : (k : Int) < (m : Int) := by omega
      have hbi := HBI.out k hk
      have c0 : x < (begS g S.n1 row k).bl.length := by rw [hbi.len]; exact hxn
      have cO := offer_any base P S vl (begS g S.n1 row k) x ⟨T, 1⟩ wr HSr.out c0 hbi.pd hbi.ok ⟨by show 0 ≤ T; omega, by show (0 : Int) ≤ 1; decide, by show (1 : Int) < 1048576; decide⟩ (by rw [hbi.ll]; omega) (by rw [hbi.pl]; omega) (by rw [hbi.len]; omega)
      have HcO : Hid (Calls Tryz.prog 85 #[.pointer (some ⟨P, 0, none⟩), .int .i64 (x : Int), cstV ⟨T, 1⟩] wr fun e w' => e = .returned (.tuple #[]) ∧ St4 base P S vl w' ((begS g S.n1 row k).offer x ⟨T, 1⟩) ∧ Fr4 base wr w') := cO
      clear cO hbi c0 hro hrx ea
      go_wp2_with fail
      refine HcO.out.mono ?_
      rintro e w2 ⟨rfl, hS2, hF2⟩
      have HS2 : Hid (St4 base P S vl w2 (begS g S.n1 row (k + 1))) := (by rw [HBn.out]; exact hS2 : St4 base P S vl w2 (begS g S.n1 row (k + 1)))
      have HF2 : Hid (Fr4 base wC w2) := HFr.out.trans hF2
      clear hS2 hF2 HcO hck k1 y3
      go_wp2
      go_roundw
      case rel => exact ⟨k + 1, by omega, by go_num, HS2, HF2⟩
      case measure => simp [intOf]; omega
     ·have e : m = k := by omega
      have hkI : ¬ (k : Int) < (m : Int) := by omega
      have HJ0 : Hid (JJ S g (p : Int) (begS g S.n1 row k) Ls ((S.n1 - 0) * (S.n1 + 1) + (begS g S.n1 row k).pd.length)) := (by
       have h := SJ.start (S := S) (g := g) (p := p) HG.out HL1.out Ls HLs.out
       rw [← HRp.out, Hm.out, e] at h
       exact ⟨[], h, rfl⟩ : JJ S g (p : Int) (begS g S.n1 row k) Ls ((S.n1 - 0) * (S.n1 + 1) + (begS g S.n1 row k).pd.length))
      have HRW : Hid (RunW base P S vl g b1 nb (JJ S g (p : Int)) wr ((S.n1 - 0) * (S.n1 + 1) + (begS g S.n1 row k).pd.length) wr) := ⟨_, Ls, HJ0.out, HSr.out, HL0.out.fr4 HFr.out, HC.out.bel HBk.out, Frx.refl _ _⟩
      clear HJ0 HSr
      go_wp2_with fail
      refine (run_any base P S vl g b1 nb (JJ S g (p : Int)) HRJ.out _ wr HRW.out).mono ?_
      rintro e w2 ⟨rfl, n', s, Ls', ⟨⟨D, hSJ, _⟩, h0⟩, hS2, _, _, hF2⟩
      have HE : Hid (BegOut w S g (.returned (.pointer (some ⟨P, 0, none⟩))) w2) := ⟨base, P, vl, s, Ls', D, rfl, (by rw [Hst2.out]; exact hSJ), h0, hS2, HBe.out, bel_step HBW.out (HBk.out.trans (hF2.below (fun k hk => hk) (by rw [← Hbase.out]; exact HBk.out.out.size) |>.mono (by rw [Hbase.out]; exact Nat.le_refl _)))⟩
      clear hSJ h0 hS2 hF2 HRW
      go_wp2
      go_ret
      exact HE.out
end Go.Proofs.YtdlgehnoiaoneaaGreatDoor
