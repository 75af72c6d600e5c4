/-
  One step from a Road to a next one in a search: contract.
  The Roads that a search has left at a place are looked at one after another: slices.IndexFunc with the closure of goOn: contract.
-/
import Derived.Test.YtdlgehnoiaoneaaGreatDoorGA
import Derived.Test.YtdlgehnoiaoneaaGreatDoorGK
namespace Go.Proofs.YtdlgehnoiaoneaaGreatDoor
open Go.RowKit Go.Maps

/-- What a search leans on and never writes. -/
structure Stc (base : Nat) (S : SrS) (g : GraphD) (b1 : List Nat) (nb : Nat) (w : World) : Prop where
  roads : RoadL w S.a1 g.roads b1
  low : ∀ x ∈ b1, x < base
  winds : Wnd w S.Wd S.n1 S.n1 g
  wlow : S.Wd < base
  bans : BSet w S.M nb (inL g.bans)
  blow : S.M < base
  len : g.roads.length = S.n1
  ok : graphP g
theorem Stc.fr {base : Nat} {S : SrS} {g : GraphD} {b1 : List Nat} {nb : Nat} {w w' : World} (h : Stc base S g b1 nb w) (hf : Fr4 base w w') : Stc base S g b1 nb w' := by
  refine ⟨hf.sl roadE h.roads h.low, h.low, ?_, h.wlow, ?_, h.blow, h.len, h.ok⟩
  · have e := hf.block S.Wd h.winds.lt (.inl h.wlow)
    exact ⟨Nat.lt_of_lt_of_le h.winds.lt hf.size, fun i hi => by rw [World.cell?_of_block e]; exact h.winds.done i hi, fun i hi => by rw [World.cell?_of_block e]; exact h.winds.there i hi, fun i => by rw [World.frozen?_of_block e]; exact h.winds.free i⟩
  · obtain ⟨D, hm, h3⟩ := h.bans
    have hl := hm.lt
    obtain ⟨es, clock, h1, h2⟩ := hm
    exact ⟨D, ⟨es, clock, by rw [hf.block S.M hl (.inl h.blow)]; exact h1, h2⟩, h3⟩
theorem Stc.bel {base : Nat} {S : SrS} {g : GraphD} {b1 : List Nat} {nb : Nat} {w w' : World} (h : Stc base S g b1 nb w) (hb : Bel w w') : Stc base S g b1 nb w' := h.fr (Fr4.bel hb)
/-- Is a turn forbidden? -/
noncomputable def bnd (S : SrS) (g : GraphD) (r x : Nat) : Bool := bP (inL g.bans (trnA S.back r x : Int) (trnB S.back r x : Int))
/-- The cost of a Road, in a list. -/
def cAt (l : List Cst) (i : Nat) : Cst := l[i]?.getD ⟨0, 0⟩
theorem cAt_eq {l : List Cst} {i : Nat} (h : i < l.length) : cAt l i = l[i] := by simp [cAt, h]
/-- What stands behind a step. -/
noncomputable def Sig.relax (S : SrS) (g : GraphD) (r : Nat) (s : Sig) (x : Nat) : Sig :=
  if cLtB ((cAt s.bl r).plus (stpC S.back g r x)) (cAt s.bl x) = true ∧ bnd S g r x = false then s.offer x ((cAt s.bl r).plus (stpC S.back g r x)) else s
/-- Can no later step better it? -/
def delB (g : GraphD) (r x : Nat) (bl : List Cst) : Bool := !cLtB ((cAt bl r).plus (rdAt g x).time) (cAt bl x)
/-- Blocks of other kinds that hold these cells. -/
abbrev BoxT (w : World) (B : Nat) (v : Value) (t : TypeId) : Prop := w.heap[B]? = some (.cells #[v] t)
theorem BoxT.fr {base : Nat} {w w' : World} {B : Nat} {v : Value} {t : TypeId} (h : BoxT w B v t) (hf : Fr4 base w w') (ht : t ≠ 131 ∧ t ≠ 112 ∧ t ≠ 114 ∧ t ≠ 3) : BoxT w' B v t := by
  have e := hf.block B (Array.getElem?_eq_some_iff.1 h).1 (.inr fun cs t' fz hx => by
    rw [h] at hx
    injection hx with hx
    injection hx with _ hx _
    rw [← hx]; exact ht)
  exact e.trans h
theorem BoxT.cell {w : World} {B : Nat} {v : Value} {t : TypeId} (h : BoxT w B v t) : w.cell? ⟨B, 0, none⟩ = some v ∧ B < w.heap.size := ⟨by simp [World.cell?, h], (Array.getElem?_eq_some_iff.1 h).1⟩

set_option maxRecDepth 100000 in
set_option maxHeartbeats 1000000 in
theorem step_any (base P : Nat) (S : SrS) (vl : Value) (g : GraphD) (b1 : List Nat) (nb Bs Br : Nat) (s : Sig) (r x : Nat) (w : World) (hS : St4 base P S vl w s) (hC : Stc base S g b1 nb w) (hXs : BoxT w Bs (.pointer (some ⟨P, 0, none⟩)) 107) (hXr : BoxT w Br (.int .i64 (r : Int)) 2) (eb : s.bl.length = S.n1) (hr : r < S.n1) (hx : x < S.n1) (hbd : 0 ≤ (cAt s.bl r).t ∧ (cAt s.bl r).t ≤ 1000000000000 ∧ 0 ≤ (cAt s.bl r).c ∧ (cAt s.bl r).c ≤ 1000000) (hp : ∀ y ∈ s.pd, y < s.l.length) (hk : okO s.l) (hm : s.l.length < 100000000) (hpm : s.pd.length ≤ 100000000) :
    Calls Tryz.prog 101 #[.int .i64 (x : Int), .pointer (some ⟨Bs, 0, none⟩), .pointer (some ⟨Br, 0, none⟩)] w fun e w' => e = .returned (.bool (delB g r x (s.relax S g r x).bl)) ∧ St4 base P S vl w' (s.relax S g r x) ∧ Fr4 base w w' := by
  have hrl : r < s.bl.length := by rw [eb]; exact hr
  have hxl : x < s.bl.length := by rw [eb]; exact hx
  have hxg : x < g.roads.length := by rw [hC.len]; exact hx
  have hn1 : S.n1 ≤ 8000 := by rw [← hC.len]; exact hC.ok.1.2.1
  have hro := (roadB_out (hC.ok.2.2.1 x hxg)).2.2.2.1
  rw [← rdAt_eq hxg] at hro
  have htn := tnC_bd g (trnA S.back r x) (trnB S.back r x)
  have hst : 1 ≤ stpC S.back g r x ∧ stpC S.back g r x ≤ 1000020 := by unfold stpC; omega
  have hAn : trnA S.back r x < S.n1 := by unfold trnA; split <;> omega
  have hBn : trnB S.back r x < S.n1 := by unfold trnB; split <;> omega
  obtain ⟨c, Hc⟩ : ∃ c, Hid ((cAt s.bl r).plus (stpC S.back g r x) = c) := ⟨_, (rfl : (cAt s.bl r).plus (stpC S.back g r x) = _)⟩
  have hcb : 0 ≤ c.t ∧ c.t ≤ 1000001000020 ∧ 0 ≤ c.c ∧ c.c < 1048576 := by rw [← Hc.out]; unfold Cst.plus; simp only; omega
  obtain ⟨d, Hd⟩ : ∃ c, Hid (cAt s.bl x = c) := ⟨_, (rfl : cAt s.bl x = _)⟩
  obtain ⟨b, Hb⟩ : ∃ b, Hid (cLtB c d = b) := ⟨_, (rfl : cLtB c d = _)⟩
  obtain ⟨bn, Hbn⟩ : ∃ b, Hid (bnd S g r x = b) := ⟨_, (rfl : bnd S g r x = _)⟩
  have cThr : Calls Tryz.prog 102 #[.pointer (some ⟨P, 0, none⟩), .int .i64 (r : Int), .int .i64 (x : Int)] w fun e w' => e = .returned (cstV c) ∧ Bel w w' := by
    obtain ⟨vb, vo, vi, ys, h1, h2, _, _, _, _⟩ := hS.out
    have h := through_any base P S vb vl vo vi g b1 s.bl r x w h1 h2 hC.roads hC.winds hC.len eb hC.ok hrl hx (by rw [← cAt_eq hrl]; exact hbd)
    rw [← cAt_eq hrl, Hc.out] at h
    exact h
  obtain ⟨s0, sl0⟩ := BoxT.cell hXs
  obtain ⟨r0, rl0⟩ := BoxT.cell hXr
  -- the end: is it to be forgotten?
  have HEnd : Hid (∀ (s2 : Sig) (w2 : World), s2.bl.length = s.bl.length → (∀ i, i < s.bl.length → 0 ≤ (cAt s2.bl r).t ∧ (cAt s2.bl r).t ≤ 1000001000020 ∧ 0 ≤ (cAt s2.bl r).c ∧ (cAt s2.bl r).c < 1048576) → St4 base P S vl w2 s2 → Stc base S g b1 nb w2 → ∃ gb cb b' off', ∀ w', Bel w2 w' → w'.cell? ⟨P, 1, none⟩ = some (.slice (some ⟨b', off', none⟩) S.n1 S.c1) ∧ w'.cell? ⟨P, 9, none⟩ = some (.slice (some ⟨gb, 0, none⟩) S.n1 cb) ∧ w'.cell? ⟨gb, r * 2, none⟩ = some (.int .i64 (cAt s2.bl r).t) ∧ w'.cell? ⟨gb, r * 2 + 1, none⟩ = some (.int .i64 (cAt s2.bl r).c) ∧ w'.cell? ⟨gb, x * 2, none⟩ = some (.int .i64 (cAt s2.bl x).t) ∧ w'.cell? ⟨gb, x * 2 + 1, none⟩ = some (.int .i64 (cAt s2.bl x).c) ∧ w'.cell? ⟨b', off' + x * 6 + 3, none⟩ = some (.int .i64 (rdAt g x).time) ∧ w'.cell? ⟨P, 5, none⟩ = some (.map (some S.M)) ∧ P < w'.heap.size ∧ gb < w'.heap.size) := fun s2 w2 e2 _ h2 hC2 => by
    obtain ⟨vb, vo, vi, ys, k1, k2, _, _, _, _⟩ := h2.out
    have hl2 : 0 < s2.bl.length := by omega
    obtain ⟨gb, cb, rfl, _, _⟩ := own_in k2 hl2
    obtain ⟨b', off', f', ea, hb', _⟩ := hC2.roads.out hxg
    refine ⟨gb, cb, b', off', fun w' h => ?_⟩
    have k1' := own_bel k1 h
    have q1 := SrB.at (own_bel k2 h) rfl (show r < s2.bl.length by omega)
    have q2 := SrB.at (own_bel k2 h) rfl (show x < s2.bl.length by omega)
    rw [← cAt_eq (show r < s2.bl.length by omega)] at q1
    rw [← cAt_eq (show x < s2.bl.length by omega)] at q2
    have s1 := SrP.at k1' 1 (by omega)
    have s9 := SrP.at k1' 9 (by omega)
    simp only [List.getElem_cons_zero, List.getElem_cons_succ] at s1 s9
    rw [ea] at s1
    rw [e2, eb] at s9
    obtain ⟨b2, off2, f2, e', _, hx'⟩ := (hC2.roads.bel roadE h).out hxg
    rw [ea] at e'
    injection e' with e'
    injection e' with e1' e2'
    subst e1' e2'
    obtain ⟨_, _, _, _, _, _, _, _, _, _, y3, _⟩ := hx' x hxg
    rw [← rdAt_eq hxg] at y3
    exact ⟨s1, s9, q1.1, q1.2, q2.1, q2.2, y3, SrP.at k1' 5 (by omega), (SrP.lt k1').2, (World.ownsRow.lt (own_bel k2 h) gb rfl).2⟩
  go_enter Tryz.func101, Tryz.ntmps101
  go_wp2_with fail
  refine cThr.mono ?_
  rintro e w1 ⟨rfl, hb1⟩
  obtain ⟨W, HW⟩ : ∃ W, Hid (W = w1.alloc (.cells #[.int .i64 c.t, .int .i64 c.c] 112)) := ⟨_, (rfl : w1.alloc (.cells #[.int .i64 c.t, .int .i64 c.c] 112) = _)⟩
  have hBW : Bel w W := by rw [HW.out]; exact bel_alloc hb1 _
  have XW : Blk W w1.heap.size [.int .i64 c.t, .int .i64 c.c] := by rw [HW.out]; exact Blk.new w1 [.int .i64 c.t, .int .i64 c.c] _
  have hSW := hS.bel hBW
  have hCW := hC.bel hBW
  obtain ⟨gb, cb, bb, off, hcl⟩ := HEnd.out s W rfl (fun _ _ => by omega) hSW hCW
  obtain ⟨n1, hn1e⟩ : ∃ n, S.n1 = n := ⟨_, rfl⟩
  rw [hn1e] at hcl
  have hxI : (x : Int) < (n1 : Int) := by omega
  have hrI : (r : Int) < (n1 : Int) := by omega
  have hcl2 : ∀ w', Bel W w' → w'.cell? ⟨P, 5, none⟩ = some (.map (some S.M)) ∧ w'.cell? ⟨P, 9, none⟩ = some (.slice (some ⟨gb, 0, none⟩) n1 cb) ∧ w'.cell? ⟨gb, x * 2, none⟩ = some (.int .i64 d.t) ∧ w'.cell? ⟨gb, x * 2 + 1, none⟩ = some (.int .i64 d.c) ∧ w'.cell? ⟨w1.heap.size, 0, none⟩ = some (.int .i64 c.t) ∧ w'.cell? ⟨w1.heap.size, 1, none⟩ = some (.int .i64 c.c) ∧ w'.cell? ⟨Bs, 0, none⟩ = some (.pointer (some ⟨P, 0, none⟩)) ∧ w'.cell? ⟨Br, 0, none⟩ = some (.int .i64 (r : Int)) := fun w' h => by
    obtain ⟨_, k9, _, _, kx, kx', _, k5, _, _⟩ := hcl w' h
    rw [Hd.out] at kx kx'
    exact ⟨k5, k9, kx, kx', (XW.bel h).cell 0 (by simp), (XW.bel h).cell 1 (by simp), bel_cellM (bel_step hBW h) sl0 s0, bel_cellM (bel_step hBW h) rl0 r0⟩
  clear hcl
  have cB : ∀ w', Calls Tryz.prog 73 #[cstV c, cstV d] w' fun e w'' => e = .returned (.bool b) ∧ Bel w' w'' := fun w' => before_r c d b w' Hb.out
  have cT : ∀ w', Bel W w' → Calls Tryz.prog 104 #[.pointer (some ⟨P, 0, none⟩), .int .i64 (r : Int), .int .i64 (x : Int)] w' fun e w'' => e = .returned (.agg #[.int .i64 (trnA S.back r x : Int), .int .i64 (trnB S.back r x : Int)]) ∧ Bel w' w'' := fun w' h => by
    obtain ⟨vb, vo, vi, ys, h1, _⟩ := (hSW.bel h).out
    exact turn_any base P S vb vl vo vi r x w' h1
  have cH : ∀ w', Bel W w' → Calls Tryz.prog 103 #[.map (some S.M), .agg #[.int .i64 (trnA S.back r x : Int), .int .i64 (trnB S.back r x : Int)]] w' fun e w'' => e = .returned (.bool bn) ∧ Bel w' w'' := fun w' h => by
    rw [← Hbn.out]
    exact bhas_any _ _ _ _ _ w' (hCW.bel h).bans ⟨by omega, by omega⟩ ⟨by omega, by omega⟩
  have g0 : Bel W W := Bel.refl _
  clear cThr
  go_upto_region 2 with fail
  rw [← HW.out]
  have HS0 : Hid (St4 base P S vl w s) := hS
  have HC0 : Hid (Stc base S g b1 nb w) := hC
  have HSW : Hid (St4 base P S vl W s) := hSW
  have HCW : Hid (Stc base S g b1 nb W) := hCW
  have HXs : Hid (BoxT w Bs (.pointer (some ⟨P, 0, none⟩)) 107) := hXs
  have HXr : Hid (BoxT w Br (.int .i64 (r : Int)) 2) := hXr
  clear hS hC hSW hCW hXs hXr s0 sl0 r0 rl0
  go_cut [5, 32] (fun t5 t wx => t5 = .pointer (some ⟨w1.heap.size, 0, none⟩) ∧ t = .bool (b && !bn) ∧ Bel W wx)
  case first =>
    cases b
    · clear cT cH
      refine wp_region_noPanic ?_
      refine wp_region_held_drew (S := fun w' => Bel W w') (by kernel_rfl) (Bel.drew g0) (fun hHeld => ?_)
      refine tk 0 hHeld ?_; refine tk 1 hHeld ?_; refine tk 2 hHeld ?_; refine tk 3 hHeld ?_; refine tk 4 hHeld ?_; refine tk 5 hHeld ?_
      refine tk 6 hHeld ?_; refine tk 7 hHeld ?_
      refine rd1 8 (fun K hK => ?_)
      go_simp
      refine (cB _).mono ?_
      rintro e w2 ⟨rfl, hbk⟩
      go_wp2_with fail
      refine hK.out _ _ (bel_step hHeld hbk) (fun hHeld' => ?_)
      clear hK K hHeld
      have hHeld := hHeld'
      clear hHeld'
      try simp only [Act.put, List.setIfInBounds_toArray, List.set_cons_zero, List.set_cons_succ]
      refine tk 9 hHeld ?_; refine sk 10 hHeld ?_; refine sk 11 hHeld ?_; refine sk 12 hHeld ?_; refine sk 13 hHeld ?_
      refine sk 14 hHeld ?_; refine sk 15 hHeld ?_; refine sk 16 hHeld ?_; refine sk 17 hHeld ?_; refine sk 18 hHeld ?_
      refine sk 19 hHeld ?_; refine sk 20 hHeld ?_; refine sk 21 hHeld ?_; refine tk 22 hHeld ?_
      refine wpAnyH_done (by kernel_rfl) ?_ _
      refine NoPanic.normal ?_
      go_wp2_with fail
      go_meet
      case rel => exact ⟨rfl, rfl, hHeld⟩
    · go_region_held3 (fun w' => Bel W w') (with_reducible (repeat (first | assumption | exact g0 | refine Bel.drew ?_ | refine bel_then (by assumption) ?_)))
        (first
          | (go_at_call 73; refine (cB _).mono ?_; rintro e w2 ⟨rfl, hb2⟩)
          | (go_at_call 104; refine (cT _ (by assumption)).mono ?_; rintro e w3 ⟨rfl, hb3⟩)
          | (go_at_call 103; refine (cH _ (by assumption)).mono ?_; rintro e w4 ⟨rfl, hb4⟩))
      have hH4 : Bel W w4 := by assumption
      go_wp2_with fail
      go_meet
      case rel => exact ⟨rfl, by cases bn <;> rfl, hH4⟩
  case rest =>
    obtain ⟨rfl, rfl, hbx⟩ := hcut
    obtain ⟨wA, rfl⟩ : ∃ V, V = wc := ⟨_, rfl⟩
    have hSA := HSW.out.bel hbx
    have hCA := HCW.out.bel hbx
    have hXsA : BoxT wA Bs (.pointer (some ⟨P, 0, none⟩)) 107 := HXs.out.fr (Fr4.bel (base := base) (bel_step hBW hbx)) (by decide)
    have hXrA : BoxT wA Br (.int .i64 (r : Int)) 2 := HXr.out.fr (Fr4.bel (base := base) (bel_step hBW hbx)) (by decide)
    have HFA : Hid (Fr4 base w wA) := Fr4.bel (bel_step hBW hbx)
    clear hcl2 cB cT cH
    obtain ⟨v, Hv⟩ : ∃ v, Hid ((b && !bn) = v) := ⟨_, (rfl : (b && !bn) = _)⟩
    rw [Hv.out]
    cases v
    · obtain ⟨s2, hs2⟩ : ∃ t, t = s := ⟨_, rfl⟩
      subst hs2
      obtain ⟨w5, hw5⟩ : ∃ t, t = wA := ⟨_, rfl⟩
      subst hw5
      have HRx : Hid (s2.relax S g r x = s2) := (by
        unfold Sig.relax
        rw [Hc.out, Hd.out, Hb.out, Hbn.out]
        exact if_neg fun hh => by
          have h1 : (b && !bn) = false := Hv.out
          rw [hh.1, hh.2] at h1
          exact nomatch h1 : s2.relax S g r x = s2)
      have HLs : Hid (s2.bl.length = s2.bl.length) := rfl
      have HBd : Hid (0 ≤ (cAt s2.bl r).t ∧ (cAt s2.bl r).t ≤ 1000001000020 ∧ 0 ≤ (cAt s2.bl r).c ∧ (cAt s2.bl r).c < 1048576) := (by omega : 0 ≤ (cAt s2.bl r).t ∧ (cAt s2.bl r).t ≤ 1000001000020 ∧ 0 ≤ (cAt s2.bl r).c ∧ (cAt s2.bl r).c < 1048576)
      have HF5 : Hid (Fr4 base w w5) := HFA
      have hS5 := hSA
      have hC5 := hCA
      have hXs5 := hXsA
      have hXr5 := hXrA
      clear hSA hCA hXsA hXrA
      obtain ⟨gb2, cb2, bb2, off2, hcl4⟩ := HEnd.out s2 w5 HLs.out (fun _ _ => HBd.out) hS5 hC5
      obtain ⟨z, Hz⟩ : ∃ c, Hid (cAt s2.bl r = c) := ⟨_, (rfl : cAt s2.bl r = _)⟩
      obtain ⟨y, Hy⟩ : ∃ c, Hid (cAt s2.bl x = c) := ⟨_, (rfl : cAt s2.bl x = _)⟩
      obtain ⟨T, HT⟩ : ∃ c, Hid ((rdAt g x).time = c) := ⟨_, (rfl : (rdAt g x).time = _)⟩
      have hzb := HBd.out
      rw [Hz.out] at hzb
      rw [HT.out] at hro
      rw [hn1e] at hcl4
      obtain ⟨u, Hu⟩ : ∃ c, Hid (z.plus T = c) := ⟨_, (rfl : z.plus T = _)⟩
      obtain ⟨b2, Hb2⟩ : ∃ c, Hid (cLtB u y = c) := ⟨_, (rfl : cLtB u y = _)⟩
      have HDel : Hid (delB g r x s2.bl = !b2) := (by unfold delB; rw [Hz.out, Hy.out, HT.out, Hu.out, Hb2.out] : delB g r x s2.bl = !b2)
      have hS4 : ∀ w', Bel w5 w' → w'.cell? ⟨P, 1, none⟩ = some (.slice (some ⟨bb2, off2, none⟩) n1 S.c1) ∧ w'.cell? ⟨P, 9, none⟩ = some (.slice (some ⟨gb2, 0, none⟩) n1 cb2) ∧ w'.cell? ⟨gb2, r * 2, none⟩ = some (.int .i64 z.t) ∧ w'.cell? ⟨gb2, r * 2 + 1, none⟩ = some (.int .i64 z.c) ∧ w'.cell? ⟨gb2, x * 2, none⟩ = some (.int .i64 y.t) ∧ w'.cell? ⟨gb2, x * 2 + 1, none⟩ = some (.int .i64 y.c) ∧ w'.cell? ⟨bb2, off2 + x * 6 + 3, none⟩ = some (.int .i64 T) ∧ w'.cell? ⟨Bs, 0, none⟩ = some (.pointer (some ⟨P, 0, none⟩)) ∧ w'.cell? ⟨Br, 0, none⟩ = some (.int .i64 (r : Int)) := fun w' h => by
        obtain ⟨k1, k9, kr, kr', kx, kx', kt, _, _, _⟩ := hcl4 w' h
        rw [Hz.out] at kr kr'
        rw [Hy.out] at kx kx'
        rw [HT.out] at kt
        exact ⟨k1, k9, kr, kr', kx, kx', kt, bel_cellM h (BoxT.cell hXs5).2 (BoxT.cell hXs5).1, bel_cellM h (BoxT.cell hXr5).2 (BoxT.cell hXr5).1⟩
      have cP : ∀ w', Calls Tryz.prog 105 #[cstV z, .int .i64 T] w' fun e w'' => e = .returned (cstV u) ∧ Bel w' w'' := fun w' => by rw [← Hu.out]; exact plus_any z T w' ⟨by omega, by omega⟩ ⟨by omega, by omega⟩
      have cB2 : ∀ w', Calls Tryz.prog 73 #[cstV u, cstV y] w' fun e w'' => e = .returned (.bool b2) ∧ Bel w' w'' := fun w' => before_r u y b2 w' Hb2.out
      have HS5 : Hid (St4 base P S vl w5 s2) := hS5
      have g5 : Bel w5 w5 := Bel.refl _
      clear hcl4 hS5 hC5 hXs5 hXr5
      go_upto_region 4 with fail
      go_region_held3 (fun w' => Bel w5 w') (with_reducible (repeat (first | assumption | exact g5 | refine Bel.drew ?_ | refine bel_then (by assumption) ?_)))
        (first
          | (go_at_call 105; refine (cP _).mono ?_; rintro e w6 ⟨rfl, hb6⟩)
          | (go_at_call 73; refine (cB2 _).mono ?_; rintro e w7 ⟨rfl, hb7⟩))
      have hH7 : Bel w5 w7 := by assumption
      clear hS4
      go_wp2
      go_ret
      exact ⟨by rw [HRx.out, HDel.out]; rfl, by rw [HRx.out]; exact HS5.out.bel hH7, HF5.out.trans (Fr4.bel hH7)⟩
    · have HRx0 : Hid (s.relax S g r x = s.offer x c) := (by
        unfold Sig.relax
        rw [Hc.out, Hd.out, Hb.out, Hbn.out]
        have h1 : (b && !bn) = true := Hv.out
        exact if_pos (by cases b <;> cases bn <;> first | exact ⟨rfl, rfl⟩ | cases h1) : s.relax S g r x = s.offer x c)
      have k0 := (XW.bel hbx).cell 0 (by simp)
      have k1 := (XW.bel hbx).cell 1 (by simp)
      simp only [List.getElem_cons_zero, List.getElem_cons_succ] at k0 k1
      have kl := (XW.bel hbx).lt
      obtain ⟨q0, ql⟩ := BoxT.cell hXsA
      have HSA : Hid (St4 base P S vl wA s) := hSA
      have HCA : Hid (Stc base S g b1 nb wA) := hCA
      clear hSA hCA
      go_wp2_with fail
      refine (offer_any base P S vl s x c wA HSA.out hxl hp hk ⟨hcb.1, hcb.2.2.1, hcb.2.2.2⟩ hm hpm (by omega)).mono ?_
      rintro e w5 ⟨rfl, hS5, hF5⟩
      obtain ⟨s2, Hs2⟩ : ∃ t, Hid (s.offer x c = t) := ⟨_, (rfl : s.offer x c = _)⟩
      rw [Hs2.out] at hS5
      have HRx : Hid (s.relax S g r x = s2) := HRx0.out.trans Hs2.out
      have HLs : Hid (s2.bl.length = s.bl.length) := (by rw [← Hs2.out]; unfold Sig.offer; simp : s2.bl.length = s.bl.length)
      have HBd : Hid (0 ≤ (cAt s2.bl r).t ∧ (cAt s2.bl r).t ≤ 1000001000020 ∧ 0 ≤ (cAt s2.bl r).c ∧ (cAt s2.bl r).c < 1048576) := (by
        rw [← Hs2.out]
        unfold Sig.offer
        simp only
        by_cases e : x = r
        · subst e
          rw [cAt_eq (by rw [List.length_set]; exact hxl), List.getElem_set_self]
          exact hcb
        · have h1 : cAt (s.bl.set x c) r = cAt s.bl r := by
            rw [cAt_eq (by rw [List.length_set]; exact hrl), cAt_eq hrl, List.getElem_set_ne e]
          rw [h1]
          omega : 0 ≤ (cAt s2.bl r).t ∧ (cAt s2.bl r).t ≤ 1000001000020 ∧ 0 ≤ (cAt s2.bl r).c ∧ (cAt s2.bl r).c < 1048576)
      have HF5 : Hid (Fr4 base w w5) := HFA.out.trans hF5
      have hC5 := HCA.out.fr hF5
      have hXs5 := BoxT.fr hXsA hF5 (by decide)
      have hXr5 := BoxT.fr hXrA hF5 (by decide)
      clear hXsA hXrA k0 k1 kl q0 ql
      obtain ⟨gb2, cb2, bb2, off2, hcl4⟩ := HEnd.out s2 w5 HLs.out (fun _ _ => HBd.out) hS5 hC5
      obtain ⟨z, Hz⟩ : ∃ c, Hid (cAt s2.bl r = c) := ⟨_, (rfl : cAt s2.bl r = _)⟩
      obtain ⟨y, Hy⟩ : ∃ c, Hid (cAt s2.bl x = c) := ⟨_, (rfl : cAt s2.bl x = _)⟩
      obtain ⟨T, HT⟩ : ∃ c, Hid ((rdAt g x).time = c) := ⟨_, (rfl : (rdAt g x).time = _)⟩
      have hzb := HBd.out
      rw [Hz.out] at hzb
      rw [HT.out] at hro
      rw [hn1e] at hcl4
      obtain ⟨u, Hu⟩ : ∃ c, Hid (z.plus T = c) := ⟨_, (rfl : z.plus T = _)⟩
      obtain ⟨b2, Hb2⟩ : ∃ c, Hid (cLtB u y = c) := ⟨_, (rfl : cLtB u y = _)⟩
      have HDel : Hid (delB g r x s2.bl = !b2) := (by unfold delB; rw [Hz.out, Hy.out, HT.out, Hu.out, Hb2.out] : delB g r x s2.bl = !b2)
      have hS4 : ∀ w', Bel w5 w' → w'.cell? ⟨P, 1, none⟩ = some (.slice (some ⟨bb2, off2, none⟩) n1 S.c1) ∧ w'.cell? ⟨P, 9, none⟩ = some (.slice (some ⟨gb2, 0, none⟩) n1 cb2) ∧ w'.cell? ⟨gb2, r * 2, none⟩ = some (.int .i64 z.t) ∧ w'.cell? ⟨gb2, r * 2 + 1, none⟩ = some (.int .i64 z.c) ∧ w'.cell? ⟨gb2, x * 2, none⟩ = some (.int .i64 y.t) ∧ w'.cell? ⟨gb2, x * 2 + 1, none⟩ = some (.int .i64 y.c) ∧ w'.cell? ⟨bb2, off2 + x * 6 + 3, none⟩ = some (.int .i64 T) ∧ w'.cell? ⟨Bs, 0, none⟩ = some (.pointer (some ⟨P, 0, none⟩)) ∧ w'.cell? ⟨Br, 0, none⟩ = some (.int .i64 (r : Int)) := fun w' h => by
        obtain ⟨k1, k9, kr, kr', kx, kx', kt, _, _, _⟩ := hcl4 w' h
        rw [Hz.out] at kr kr'
        rw [Hy.out] at kx kx'
        rw [HT.out] at kt
        exact ⟨k1, k9, kr, kr', kx, kx', kt, bel_cellM h (BoxT.cell hXs5).2 (BoxT.cell hXs5).1, bel_cellM h (BoxT.cell hXr5).2 (BoxT.cell hXr5).1⟩
      have cP : ∀ w', Calls Tryz.prog 105 #[cstV z, .int .i64 T] w' fun e w'' => e = .returned (cstV u) ∧ Bel w' w'' := fun w' => by rw [← Hu.out]; exact plus_any z T w' ⟨by omega, by omega⟩ ⟨by omega, by omega⟩
      have cB2 : ∀ w', Calls Tryz.prog 73 #[cstV u, cstV y] w' fun e w'' => e = .returned (.bool b2) ∧ Bel w' w'' := fun w' => before_r u y b2 w' Hb2.out
      have HS5 : Hid (St4 base P S vl w5 s2) := hS5
      have g5 : Bel w5 w5 := Bel.refl _
      clear hcl4 hS5 hC5 hXs5 hXr5
      go_upto_region 4 with fail
      go_region_held3 (fun w' => Bel w5 w') (with_reducible (repeat (first | assumption | exact g5 | refine Bel.drew ?_ | refine bel_then (by assumption) ?_)))
        (first
          | (go_at_call 105; refine (cP _).mono ?_; rintro e w6 ⟨rfl, hb6⟩)
          | (go_at_call 73; refine (cB2 _).mono ?_; rintro e w7 ⟨rfl, hb7⟩))
      have hH7 : Bel w5 w7 := by assumption
      clear hS4
      go_wp2
      go_ret
      exact ⟨by rw [HRx.out, HDel.out]; rfl, by rw [HRx.out]; exact HS5.out.bel hH7, HF5.out.trans (Fr4.bel hH7)⟩
end Go.Proofs.YtdlgehnoiaoneaaGreatDoor

namespace Go.Proofs.YtdlgehnoiaoneaaGreatDoor
open Go.RowKit Go.Maps

/-- One Road is looked at: what the search knows then, and which ones are left. -/
noncomputable def stpP (S : SrS) (g : GraphD) (r : Nat) (p : Sig × List Nat) (x : Nat) : Sig × List Nat :=
  (p.1.relax S g r x, if delB g r x (p.1.relax S g r x).bl = true then p.2 else p.2 ++ [x])
noncomputable def stP (S : SrS) (g : GraphD) (r : Nat) (s : Sig) (xs : List Nat) (k : Nat) : Sig × List Nat := (xs.take k).foldl (stpP S g r) (s, [])
theorem stP_zero (S : SrS) (g : GraphD) (r : Nat) (s : Sig) (xs : List Nat) : stP S g r s xs 0 = (s, []) := rfl
theorem stP_succ (S : SrS) (g : GraphD) (r : Nat) (s : Sig) (xs : List Nat) {k : Nat} (h : k < xs.length) : stP S g r s xs (k + 1) = stpP S g r (stP S g r s xs k) xs[k] := by
  unfold stP
  rw [List.take_succ_eq_append_getElem h, List.foldl_append]
  rfl
/-- What holds of a search while Roads behind one Road are looked at. -/
structure Okk (S : SrS) (r : Nat) (z : Cst) (A B : Nat) (s : Sig) : Prop where
  len : s.bl.length = S.n1
  at_ : cAt s.bl r = z
  pd : ∀ y ∈ s.pd, y < s.l.length
  ok : okO s.l
  ll : s.l.length ≤ A
  pl : s.pd.length ≤ B
theorem stp_bd {S : SrS} {g : GraphD} {r x : Nat} (hg : graphP g) (hl : g.roads.length = S.n1) (hx : x < S.n1) : 1 ≤ stpC S.back g r x ∧ stpC S.back g r x ≤ 1000020 := by
  have hxg : x < g.roads.length := by rw [hl]; exact hx
  have hro := (roadB_out (hg.2.2.1 x hxg)).2.2.2.1
  rw [← rdAt_eq hxg] at hro
  have htn := tnC_bd g (trnA S.back r x) (trnB S.back r x)
  unfold stpC
  omega
theorem Okk.relax {S : SrS} {g : GraphD} {r x : Nat} {z : Cst} {A B : Nat} {s : Sig} (h : Okk S r z A B s) (hg : graphP g) (hl : g.roads.length = S.n1) (hr : r < S.n1) (hx : x < S.n1) (hz : 0 ≤ z.t ∧ 0 ≤ z.c ∧ z.c ≤ 1000000) : Okk S r z (A + 1) (B + 1) (s.relax S g r x) := by
  have hst := stp_bd (r := r) hg hl hx
  unfold Sig.relax
  rw [h.at_]
  split
  · rename_i hc
    have hne : x ≠ r := by
      rintro rfl
      have h1 := hc.1
      rw [h.at_, cLtB_iff] at h1
      simp only [Cst.lt, Cst.plus] at h1
      omega
    unfold Sig.offer
    refine ⟨by simp [h.len], ?_, ?_, ?_, ?_, ?_⟩
    · have hrl : r < s.bl.length := by rw [h.len]; exact hr
      have h2 := h.at_
      rw [cAt_eq hrl] at h2
      rw [cAt_eq (by rw [List.length_set]; exact hrl), List.getElem_set_ne hne]
      exact h2
    · intro y hy
      simp only [List.length_append, List.length_singleton]
      rcases List.mem_cons.1 hy with rfl | hy
      · omega
      · have := h.pd y hy
        omega
    · intro i hi
      simp only [List.length_append, List.length_singleton] at hi
      by_cases e : i < s.l.length
      · rw [List.getElem_append_left e]
        exact h.ok i e
      · obtain rfl : i = s.l.length := by omega
        simp only [List.getElem_concat_length, Cst.plus]
        omega
    · have := h.ll
      simp only [List.length_append, List.length_singleton]
      omega
    · have := h.pl
      simp only [List.length_cons]
      omega
  · exact ⟨h.len, h.at_, h.pd, h.ok, by have := h.ll; omega, by have := h.pl; omega⟩
theorem Okk.stP {S : SrS} {g : GraphD} {r : Nat} {z : Cst} {A B : Nat} {s : Sig} {xs : List Nat} (h : Okk S r z A B s) (hg : graphP g) (hl : g.roads.length = S.n1) (hr : r < S.n1) (hx : ∀ x ∈ xs, x < S.n1) (hz : 0 ≤ z.t ∧ 0 ≤ z.c ∧ z.c ≤ 1000000) :
    ∀ k, k ≤ xs.length → Okk S r z (A + k) (B + k) (stP S g r s xs k).1
  | 0, _ => h
  | k + 1, hk => by
    rw [stP_succ S g r s xs hk]
    exact (Okk.stP h hg hl hr hx hz k (by omega)).relax hg hl hr (hx _ (List.getElem_mem _)) hz
theorem intsL_at {w : World} {base g n cap : Nat} {e : TypeId} {l : List Nat} (h : w.ownsRow base e 1 (.slice (some ⟨g, 0, none⟩) n cap) n (intsN l)) {i : Nat} (hi : i < l.length) (hn : i < n) : w.cell? ⟨g, i, none⟩ = some (.int .i64 (l[i] : Int)) := by
  rw [h.cellAt i (by omega)]
  simp [intsN, hi]

set_option maxRecDepth 100000 in
set_option maxHeartbeats 2000000 in
theorem index_any (base P : Nat) (S : SrS) (vl : Value) (g : GraphD) (b1 : List Nat) (nb Bs Br : Nat) (s : Sig) (r : Nat) (z : Cst) (xs : List Nat) (a : Option Addr) (n c : Nat) (w : World) (hS : St4 base P S vl w s) (hC : Stc base S g b1 nb w) (hXs : BoxT w Bs (.pointer (some ⟨P, 0, none⟩)) 107) (hXr : BoxT w Br (.int .i64 (r : Int)) 2) (hr : r < S.n1) (hx : ∀ x ∈ xs, x < S.n1) (hK : Okk S r z 90000000 90000000 s) (hz : 0 ≤ z.t ∧ z.t ≤ 1000000000000 ∧ 0 ≤ z.c ∧ z.c ≤ 1000000) (hn : xs.length = n) (hm : n ≤ 1000000) (hR : 0 < n → w.ownsRow base 2 1 (.slice a n c) n (intsN xs)) :
    Calls Tryz.prog 106 #[.slice a n c, .func (.func 101) #[] #[.pointer (some ⟨Bs, 0, none⟩), .pointer (some ⟨Br, 0, none⟩)]] w fun e w' => Fr4 base w w' ∧
      ((e = .returned (.int .i64 (-1)) ∧ St4 base P S vl w' (stP S g r s xs n).1 ∧ (stP S g r s xs n).2 = xs) ∨
       ∃ k, k < n ∧ e = .returned (.int .i64 (k : Int)) ∧ St4 base P S vl w' (stP S g r s xs (k + 1)).1 ∧ (stP S g r s xs (k + 1)).2 = xs.take k) := by
  have HS : Hid (St4 base P S vl w s) := hS
  have HC : Hid (Stc base S g b1 nb w) := hC
  have HXs : Hid (BoxT w Bs (.pointer (some ⟨P, 0, none⟩)) 107) := hXs
  have HXr : Hid (BoxT w Br (.int .i64 (r : Int)) 2) := hXr
  have HR : Hid (0 < n → w.ownsRow base 2 1 (.slice a n c) n (intsN xs)) := hR
  have HN : Hid (xs.length = n) := hn
  have HO : Hid (∀ k, k ≤ xs.length → Okk S r z (90000000 + k) (90000000 + k) (stP S g r s xs k).1) := hK.stP hC.ok hC.len hr hx ⟨hz.1, hz.2.2.1, hz.2.2.2⟩
  have HX : Hid (∀ x ∈ xs, x < S.n1) := hx
  clear hS hC hXs hXr hR hn hK hx
  go_enter Tryz.func106, Tryz.ntmps106
  go_wp2
  go_loopw [5, 8] (fun _ i wr => ∃ k : Nat, k ≤ n ∧ i = .int .i64 k ∧ Hid (St4 base P S vl wr (stP S g r s xs k).1) ∧ Hid ((stP S g r s xs k).2 = xs.take k) ∧ Hid (Fr4 base w wr)) (fun _ i _ => n - (intOf i).toNat)
  case atStart => exact ⟨0, Nat.zero_le _, rfl, HS, by rw [stP_zero]; exact (rfl : ([] : List Nat) = xs.take 0), Fr4.refl _ _⟩
  case round =>
    obtain ⟨k, hk, rfl, HSr, HT, HF⟩ := hrel
    by_cases hlt : k < n
    · have hkx : k < xs.length := by rw [HN.out]; exact hlt
      have hI := HF.out.own (HR.out (by omega)) (by decide)
      obtain ⟨A, cap, ev, _, hA⟩ := own_in hI (by omega)
      simp only [Value.slice.injEq, true_and] at ev
      obtain ⟨rfl, rfl⟩ := ev
      have hc := intsL_at hI hkx hlt
      obtain ⟨x, Hx⟩ : ∃ x, Hid (xs[k] = x) := ⟨_, (rfl : xs[k] = _)⟩
      rw [Hx.out] at hc
      have hxn : x < S.n1 := by rw [← Hx.out]; exact HX.out _ (List.getElem_mem _)
      have hkI : (k : Int) < (n : Int) := by omega
      have HOk : Hid (Okk S r z (90000000 + k) (90000000 + k) (stP S g r s xs k).1) := HO.out k (by omega)
      have HSt : Hid (stP S g r s xs (k + 1) = stpP S g r (stP S g r s xs k) x) := (by rw [stP_succ S g r s xs hkx, Hx.out] : stP S g r s xs (k + 1) = stpP S g r (stP S g r s xs k) x)
      have HTk : Hid (xs.take (k + 1) = xs.take k ++ [x]) := (by rw [List.take_succ_eq_append_getElem hkx, Hx.out] : xs.take (k + 1) = xs.take k ++ [x])
      obtain ⟨sk, Hsk⟩ : ∃ t, Hid ((stP S g r s xs k).1 = t) := ⟨_, (rfl : (stP S g r s xs k).1 = _)⟩
      rw [Hsk.out] at HSr HOk
      clear hI
      go_wp2_with fail
      refine (step_any base P S vl g b1 nb Bs Br sk r x wr HSr.out (HC.out.fr HF.out) (HXs.out.fr HF.out (by decide)) (HXr.out.fr HF.out (by decide)) HOk.out.len hr hxn (by rw [HOk.out.at_]; exact hz) HOk.out.pd HOk.out.ok (by have := HOk.out.ll; omega) (by have := HOk.out.pl; omega)).mono ?_
      rintro e w2 ⟨rfl, hS2, hF2⟩
      have HS2 : Hid (St4 base P S vl w2 (stP S g r s xs (k + 1)).1) := (by rw [HSt.out]; unfold stpP; simp only; rw [Hsk.out]; exact hS2 : St4 base P S vl w2 (stP S g r s xs (k + 1)).1)
      have HF2 : Hid (Fr4 base w w2) := HF.out.trans hF2
      obtain ⟨d, Hd⟩ : ∃ d, Hid (delB g r x (sk.relax S g r x).bl = d) := ⟨_, (rfl : delB g r x (sk.relax S g r x).bl = _)⟩
      have HL2 : Hid ((stP S g r s xs (k + 1)).2 = if d = true then xs.take k else xs.take k ++ [x]) := (by rw [HSt.out]; unfold stpP; simp only; rw [Hsk.out, Hd.out, HT.out] : (stP S g r s xs (k + 1)).2 = if d = true then xs.take k else xs.take k ++ [x])
      rw [Hd.out]
      clear hS2 hF2 hc hA
      cases d
      · go_wp2
        go_roundw
        case rel => exact ⟨k + 1, by omega, by go_num, HS2, by rw [HL2.out, HTk.out]; exact (rfl : xs.take k ++ [x] = xs.take k ++ [x]), HF2⟩
        case measure => simp [intOf]; omega
      · go_wp2
        go_ret
        exact ⟨HF2.out, .inr ⟨k, hlt, rfl, HS2.out, HL2.out⟩⟩
    · obtain rfl : k = n := by omega
      have HTn : Hid ((stP S g r s xs k).2 = xs) := (by rw [HT.out]; exact List.take_of_length_le (by rw [HN.out]; exact Nat.le_refl _) : (stP S g r s xs k).2 = xs)
      go_wp2
      go_ret
      exact ⟨HF.out, .inl ⟨rfl, HSr.out, HTn.out⟩⟩
end Go.Proofs.YtdlgehnoiaoneaaGreatDoor
