/-
  What a step of a search costs: contracts.
  A search's state; an offer is made: contract.
-/
import Derived.Test.YtdlgehnoiaoneaaGreatDoorSchK
import Derived.Test.YtdlgehnoiaoneaaGreatDoorGA
namespace Go.Proofs.YtdlgehnoiaoneaaGreatDoor
open Go.RowKit Go.Maps

/-- A search's row of best costs. -/
def cstCs (x : Cst) : List Value := [.int .i64 x.t, .int .i64 x.c]
abbrev SrB (base : Nat) (w : World) (vb : Value) (l : List Cst) : Prop := w.ownsRow base 112 2 vb l.length (l.flatMap cstCs)
theorem SrB.at {base : Nat} {w : World} {g n cap : Nat} {l : List Cst} (h : SrB base w (.slice (some ⟨g, 0, none⟩) n cap) l) (hn : l.length = n) {i : Nat} (hi : i < l.length) :
    w.cell? ⟨g, i * 2, none⟩ = some (.int .i64 l[i].t) ∧ w.cell? ⟨g, i * 2 + 1, none⟩ = some (.int .i64 l[i].c) := by
  subst hn
  have h0 := h.cellAt (i * 2) (by omega)
  have h1 := h.cellAt (i * 2 + 1) (by omega)
  have k0 := flat_at (cs := cstCs) (q := 2) (fun _ => rfl) l i hi 0 (by omega)
  have k1 := flat_at (cs := cstCs) (q := 2) (fun _ => rfl) l i hi 1 (by omega)
  rw [Nat.add_zero] at k0
  exact ⟨h0.trans k0, h1.trans k1⟩
/-- A turn, as a search that goes back or on has it. -/
def trnA (back : Bool) (r x : Nat) : Nat := if back = true then x else r
def trnB (back : Bool) (r x : Nat) : Nat := if back = true then r else x

set_option maxHeartbeats 1000000 in
theorem turn_any (base P : Nat) (S : SrS) (vb vl vo vi : Value) (r x : Nat) (w : World) (hP : SrP base S P w vb vl vo vi) :
    Calls Tryz.prog 104 #[.pointer (some ⟨P, 0, none⟩), .int .i64 (r : Int), .int .i64 (x : Int)] w fun e w' => e = .returned (.agg #[.int .i64 (trnA S.back r x : Int), .int .i64 (trnB S.back r x : Int)]) ∧ Bel w w' := by
  have s7 : w.cell? ⟨P, 7, none⟩ = some (.bool S.back) := SrP.at hP 7 (by omega)
  have sl := (SrP.lt hP).2
  obtain ⟨bk, Hbk⟩ : ∃ b, Hid (S.back = b) := ⟨_, (rfl : S.back = _)⟩
  rw [Hbk.out] at s7 ⊢
  clear hP
  cases bk
  · go_enter Tryz.func104, Tryz.ntmps104
    go_wp2
    exact bodyPost_ret (v := .agg #[.int .i64 (r : Int), .int .i64 (x : Int)]) (by simp [results, Tryz.results104, go_sem]) rfl ⟨rfl, by first | exact bel_alloc (Bel.refl _) _ | exact bel_set (bel_set (bel_alloc (Bel.refl _) _) (Nat.le_refl _) _) (Nat.le_refl _) _⟩
  · go_enter Tryz.func104, Tryz.ntmps104
    go_wp2
    exact bodyPost_ret (v := .agg #[.int .i64 (x : Int), .int .i64 (r : Int)]) (by simp [results, Tryz.results104, go_sem]) rfl ⟨rfl, by first | exact bel_alloc (Bel.refl _) _ | exact bel_set (bel_set (bel_alloc (Bel.refl _) _) (Nat.le_refl _) _) (Nat.le_refl _) _⟩

/-- Where a search comes to by a Road. -/
def plcB (back : Bool) (g : GraphD) (r : Nat) : Int := if back = true then (rdAt g r).fr else (rdAt g r).to
set_option maxHeartbeats 1000000 in
theorem placeBy_any (base P : Nat) (S : SrS) (vb vl vo vi : Value) (g : GraphD) (b1 : List Nat) (r : Nat) (w : World) (hP : SrP base S P w vb vl vo vi) (t1 : RoadL w S.a1 g.roads b1) (e1 : g.roads.length = S.n1) (hr : r < S.n1) :
    Calls Tryz.prog 72 #[.pointer (some ⟨P, 0, none⟩), .int .i64 (r : Int)] w fun e w' => e = .returned (.int .i64 (plcB S.back g r)) ∧ w' = w := by
  have s7 : w.cell? ⟨P, 7, none⟩ = some (.bool S.back) := SrP.at hP 7 (by omega)
  have s1 : w.cell? ⟨P, 1, none⟩ = some (.slice S.a1 S.n1 S.c1) := SrP.at hP 1 (by omega)
  have sl := (SrP.lt hP).2
  have hrl : r < g.roads.length := by rw [e1]; exact hr
  obtain ⟨b, off, f, ea, hb, hx⟩ := t1.out hrl
  rw [ea] at s1
  obtain ⟨_, _, _, _, _, _, _, y0, y1, _⟩ := hx r hrl
  rw [← rdAt_eq hrl] at y0 y1
  obtain ⟨F, HF⟩ : ∃ x, Hid ((rdAt g r).fr = x) := ⟨_, (rfl : (rdAt g r).fr = _)⟩
  obtain ⟨T, HT⟩ : ∃ x, Hid ((rdAt g r).to = x) := ⟨_, (rfl : (rdAt g r).to = _)⟩
  rw [HF.out] at y0
  rw [HT.out] at y1
  obtain ⟨n1, hn1⟩ : ∃ n, S.n1 = n := ⟨_, rfl⟩
  rw [hn1] at s1 hr
  have hrI : (r : Int) < (n1 : Int) := by omega
  obtain ⟨bk, Hbk⟩ : ∃ b, Hid (S.back = b) := ⟨_, (rfl : S.back = _)⟩
  have HR : Hid (plcB S.back g r = if S.back = true then F else T) := (by unfold plcB; rw [HF.out, HT.out] : plcB S.back g r = if S.back = true then F else T)
  rw [HR.out]
  rw [Hbk.out] at s7 ⊢
  clear hP hx t1
  cases bk
  · go_enter Tryz.func72, Tryz.ntmps72
    go_wp2
    go_ret
    exact ⟨rfl, rfl⟩
  · go_enter Tryz.func72, Tryz.ntmps72
    go_wp2
    go_ret
    exact ⟨rfl, rfl⟩

/-- What a step costs: the turn, and the next Road's time. -/
def stpC (back : Bool) (g : GraphD) (r x : Nat) : Int := tnC g (trnA back r x) (trnB back r x) + (rdAt g x).time

set_option maxRecDepth 100000 in
set_option maxHeartbeats 4000000 in
theorem through_any (base P : Nat) (S : SrS) (vb vl vo vi : Value) (g : GraphD) (b1 : List Nat) (bl : List Cst) (r x : Nat) (w : World) (hP : SrP base S P w vb vl vo vi) (hB : SrB base w vb bl) (t1 : RoadL w S.a1 g.roads b1) (hW : Wnd w S.Wd S.n1 S.n1 g) (e1 : g.roads.length = S.n1) (eb : bl.length = S.n1) (hP1 : graphP g) (hr : r < bl.length) (hx : x < S.n1) (hbd : 0 ≤ bl[r].t ∧ bl[r].t ≤ 1000000000000 ∧ 0 ≤ bl[r].c ∧ bl[r].c ≤ 1000000) :
    Calls Tryz.prog 102 #[.pointer (some ⟨P, 0, none⟩), .int .i64 (r : Int), .int .i64 (x : Int)] w fun e w' => e = .returned (cstV (bl[r].plus (stpC S.back g r x))) ∧ Bel w w' := by
  obtain ⟨gb, cb, hvb, _, _⟩ := own_in hB (by omega)
  subst hvb
  have hrn : r < S.n1 := by rw [← eb]; exact hr
  have hxl : x < g.roads.length := by rw [e1]; exact hx
  obtain ⟨b, off, f, ea, _, _⟩ := t1.out hxl
  have hro := (roadB_out (hP1.2.2.1 x hxl)).2.2.2.1
  rw [← rdAt_eq hxl] at hro
  obtain ⟨T, HT⟩ : ∃ t, Hid ((rdAt g x).time = t) := ⟨_, (rfl : (rdAt g x).time = _)⟩
  rw [HT.out] at hro
  have htn := tnC_bd g (trnA S.back r x) (trnB S.back r x)
  obtain ⟨C, HC⟩ : ∃ t, Hid (tnC g (trnA S.back r x) (trnB S.back r x) = t) := ⟨_, (rfl : tnC g (trnA S.back r x) (trnB S.back r x) = _)⟩
  rw [HC.out] at htn
  obtain ⟨z, Hz⟩ : ∃ t, Hid (bl[r] = t) := ⟨_, (rfl : bl[r] = _)⟩
  have HS : Hid (stpC S.back g r x = C + T) := (by unfold stpC; rw [HC.out, HT.out] : stpC S.back g r x = C + T)
  rw [Hz.out] at hbd ⊢
  rw [HS.out]
  obtain ⟨n1, hn1⟩ : ∃ n, S.n1 = n := ⟨_, rfl⟩
  have hxI : (x : Int) < (n1 : Int) := by omega
  have hrI : (r : Int) < (n1 : Int) := by omega
  have hw1 : IntKind.i64.wrap (C + T) = C + T := by rw [IntKind.wrap_i64]; omega
  obtain ⟨W, HW⟩ : ∃ W, Hid (W = w.alloc (.cells #[.int .i64 0, .int .i64 0] 112)) := ⟨_, (rfl : w.alloc (.cells #[.int .i64 0, .int .i64 0] 112) = _)⟩
  have hBW : Bel w W := by rw [HW.out]; exact bel_alloc (Bel.refl _) _
  have XW : Blk W w.heap.size [.int .i64 0, .int .i64 0] := by rw [HW.out]; exact Blk.new w [.int .i64 0, .int .i64 0] _
  have hAn : trnA S.back r x < S.n1 := by unfold trnA; split <;> omega
  have hBn : trnB S.back r x < S.n1 := by unfold trnB; split <;> omega
  have hS : ∀ w', Bel w w' → w'.cell? ⟨P, 0, none⟩ = some (.slice S.a0 S.n0 S.c0) ∧ w'.cell? ⟨P, 1, none⟩ = some (.slice (some ⟨b, off, none⟩) n1 S.c1) ∧ w'.cell? ⟨P, 2, none⟩ = some (.slice S.a2 S.n2 S.c2) ∧ w'.cell? ⟨P, 3, none⟩ = some (.slice (some ⟨S.Bb, 0, none⟩) S.n0 S.n0) ∧ w'.cell? ⟨P, 4, none⟩ = some (.slice (some ⟨S.Be, 0, none⟩) S.n0 S.n0) ∧ w'.cell? ⟨P, 5, none⟩ = some (.map (some S.M)) ∧ w'.cell? ⟨P, 6, none⟩ = some (.slice (some ⟨S.Wd, 0, none⟩) n1 n1) ∧ w'.cell? ⟨P, 9, none⟩ = some (.slice (some ⟨gb, 0, none⟩) n1 cb) ∧ w'.cell? ⟨gb, r * 2, none⟩ = some (.int .i64 z.t) ∧ w'.cell? ⟨gb, r * 2 + 1, none⟩ = some (.int .i64 z.c) ∧ w'.cell? ⟨b, off + x * 6 + 3, none⟩ = some (.int .i64 T) := fun w' h => by
    have hP' := own_bel hP h
    obtain ⟨q0, q1⟩ := SrB.at (own_bel hB h) rfl hr
    rw [Hz.out] at q0 q1
    obtain ⟨b', off', f', e', _, hx'⟩ := (t1.bel roadE h).out hxl
    rw [ea] at e'
    injection e' with e'
    injection e' with e1' e2'
    subst e1' e2'
    obtain ⟨_, _, _, _, _, _, _, _, _, _, y3, _⟩ := hx' x hxl
    rw [← rdAt_eq hxl, HT.out] at y3
    have s1 := SrP.at hP' 1 (by omega)
    have s6 := SrP.at hP' 6 (by omega)
    have s9 := SrP.at hP' 9 (by omega)
    simp only [List.getElem_cons_zero, List.getElem_cons_succ] at s1 s6 s9
    rw [ea, hn1] at s1
    rw [hn1] at s6
    rw [eb, hn1] at s9
    exact ⟨SrP.at hP' 0 (by omega), s1, SrP.at hP' 2 (by omega), SrP.at hP' 3 (by omega), SrP.at hP' 4 (by omega), SrP.at hP' 5 (by omega), s6, s9, q0, q1, y3⟩
  have cT : ∀ w', Bel w w' → Calls Tryz.prog 104 #[.pointer (some ⟨P, 0, none⟩), .int .i64 (r : Int), .int .i64 (x : Int)] w' fun e w'' => e = .returned (.agg #[.int .i64 (trnA S.back r x : Int), .int .i64 (trnB S.back r x : Int)]) ∧ Bel w' w'' := fun w' h => turn_any base P S _ vl vo vi r x w' (own_bel hP h)
  have cN : ∀ w', Bel w w' → Calls Tryz.prog 107 #[.agg #[.slice S.a0 S.n0 S.c0, .slice (some ⟨b, off, none⟩) n1 S.c1, .slice S.a2 S.n2 S.c2, .slice (some ⟨S.Bb, 0, none⟩) S.n0 S.n0, .slice (some ⟨S.Be, 0, none⟩) S.n0 S.n0, .map (some S.M), .slice (some ⟨S.Wd, 0, none⟩) n1 n1], .agg #[.int .i64 (trnA S.back r x : Int), .int .i64 (trnB S.back r x : Int)]] w' fun e w'' => e = .returned (.int .i64 C) ∧ Bel w' w'' := fun w' h => by
    rw [← HC.out]
    have t1' := t1.bel roadE h
    rw [ea] at t1'
    have hW' := hW.bel h
    rw [hn1] at hW' hAn hBn
    exact turning_any _ _ _ _ _ _ _ _ _ _ _ _ _ _ _ _ S.Wd g b1 _ _ w' t1' (by rw [e1, hn1]) hAn hBn hW'
  have cP : ∀ w', Calls Tryz.prog 105 #[cstV z, .int .i64 (C + T)] w' fun e w'' => e = .returned (cstV (z.plus (C + T))) ∧ Bel w' w'' := fun w' => plus_any z (C + T) w' ⟨by omega, by omega⟩ ⟨by omega, by omega⟩
  have g0 : Bel W W := Bel.refl _
  have hlow : w.heap.size ≤ w.heap.size := Nat.le_refl _
  obtain ⟨u, Hu⟩ : ∃ u, Hid (z.plus (C + T) = u) := ⟨_, (rfl : z.plus (C + T) = _)⟩
  rw [Hu.out] at cP ⊢
  clear hP hB t1 hW
  go_enter Tryz.func102, Tryz.ntmps102
  go_upto_region 1 with fail
  rw [← HW.out]
  go_region_held3 (fun w' => Bel w w') (with_reducible (repeat (first | assumption | exact hBW | refine Bel.drew ?_ | refine bel_set ?_ hlow _ | refine bel_then (by assumption) ?_)))
    (first
      | (go_at_call 104; refine (cT _ (by with_reducible (repeat (first | exact hBW | refine Bel.drew ?_)))).mono ?_; rintro e w1 ⟨rfl, hb1⟩; refine (fun hW1 : Bel W w1 => ?_) (bel_step (Bel.refl W).drew hb1))
      | (go_at_call 107; refine (cN _ (bel_step hBW hW1)).mono ?_; rintro e w2 ⟨rfl, hb2⟩)
      | (go_at_call 105; refine (cP _).mono ?_; rintro e w3 ⟨rfl, hb3⟩; refine (fun hX3 : Blk w3 w.heap.size [.int .i64 0, .int .i64 0] => ?_) (XW.bel (bel_step hW1 (bel_step hb2 hb3))); refine (fun hcs : _ ∧ _ ∧ _ ∧ _ => ?_) (And.intro (hX3.cell 0 (by simp)) (And.intro (hX3.cell 1 (by simp)) (And.intro (hX3.free 0) (hX3.free 1))))))
  have hw3 : Bel w w3 := bel_step hBW (bel_step hW1 (bel_step hb2 hb3))
  have hX4 : Blk ((w3.setCell ⟨w.heap.size, 0, none⟩ (.int .i64 u.t)).setCell ⟨w.heap.size, 1, none⟩ (.int .i64 u.c)) w.heap.size [.int .i64 u.t, .int .i64 u.c] := (hX3.set 0 (.int .i64 u.t) (by simp)).set 1 (.int .i64 u.c) (by simp)
  have r0 := hX4.cell 0 (by simp)
  have r1 := hX4.cell 1 (by simp)
  simp only [List.getElem_cons_zero, List.getElem_cons_succ] at r0 r1
  have hB4 : Bel w ((w3.setCell ⟨w.heap.size, 0, none⟩ (.int .i64 u.t)).setCell ⟨w.heap.size, 1, none⟩ (.int .i64 u.c)) := bel_set (bel_set hw3 hlow _) hlow _
  obtain ⟨X, HX⟩ : ∃ X, Hid (X = (w3.setCell ⟨w.heap.size, 0, none⟩ (.int .i64 u.t)).setCell ⟨w.heap.size, 1, none⟩ (.int .i64 u.c)) := ⟨_, (rfl : (w3.setCell ⟨w.heap.size, 0, none⟩ (.int .i64 u.t)).setCell ⟨w.heap.size, 1, none⟩ (.int .i64 u.c) = _)⟩
  rw [← HX.out] at r0 r1 hB4 ⊢
  go_wp2
  exact bodyPost_ret (v := cstV u) (by simp [results, Tryz.results102, go_sem, r0, r1]) rfl ⟨rfl, hB4⟩
end Go.Proofs.YtdlgehnoiaoneaaGreatDoor

namespace Go.Proofs.YtdlgehnoiaoneaaGreatDoor
open Go.RowKit Go.Maps

/-- A block that is none of a search's own four kinds. -/
def NoT (w : World) (k : Nat) : Prop := ∀ cs t fz, w.heap[k]? = some (.cells cs t fz) → t ≠ 131 ∧ t ≠ 112 ∧ t ≠ 114 ∧ t ≠ 3
/-- All that lay below base, and all blocks that are none of the four kinds, stay. -/
structure Fr4 (base : Nat) (w w' : World) : Prop where
  os : w'.os = w.os
  tape : w'.tape = w.tape
  output : w'.output = w.output
  size : w.heap.size ≤ w'.heap.size
  block : ∀ k, k < w.heap.size → (k < base ∨ NoT w k) → w'.heap[k]? = w.heap[k]?
theorem Fr4.refl (base : Nat) (w : World) : Fr4 base w w := ⟨rfl, rfl, rfl, Nat.le_refl _, fun _ _ _ => rfl⟩
theorem Fr4.trans {base : Nat} {a b c : World} (h : Fr4 base a b) (k : Fr4 base b c) : Fr4 base a c :=
  ⟨k.os.trans h.os, k.tape.trans h.tape, k.output.trans h.output, Nat.le_trans h.size k.size, fun i hi hx => by
    have e := h.block i hi hx
    rw [k.block i (Nat.lt_of_lt_of_le hi h.size) (hx.imp id fun hn cs t fz hh => hn cs t fz (by rw [← e]; exact hh)), e]⟩
theorem Fr4.bel {base : Nat} {a b : World} (h : Bel a b) : Fr4 base a b := ⟨h.out.os, h.out.tape, h.out.output, h.out.size, fun k hk _ => h.out.block k hk⟩
theorem Fr4.to_bel {base : Nat} {v a b : World} (h : Bel v a) (k : Fr4 base a b) (hv : v.heap.size ≤ base) : Bel v b :=
  h.out.trans ⟨k.os, k.tape, k.output, k.size, fun i hi => k.block i (Nat.lt_of_lt_of_le hi h.out.size) (.inl (by omega))⟩
/-- One row of a kind is written. -/
theorem Fr4.ofOwn {base : Nat} {a b : World} {e : TypeId} {q n : Nat} {v : Value} {xs : List Value} (h : a.ownsRow base e q v n xs) (he : ¬ (e ≠ 131 ∧ e ≠ 112 ∧ e ≠ 114 ∧ e ≠ 3)) (hg : a.grownBy b v.ownBlock) : Fr4 base a b :=
  ⟨hg.os, hg.tape, hg.output, hg.size, fun k hk hx => hg.block k hk fun ev => by
    rcases h.2 with ⟨rfl, _⟩ | ⟨g, cap, cur, rfl, hb, hh, _⟩
    · exact nomatch ev
    · have eg : k = g := by simpa [Value.ownBlock] using ev
      subst eg
      rcases hx with hx | hx
      · omega
      · exact he (hx _ _ _ hh)⟩
theorem Fr4.ofFrx {base P : Nat} {a b : World} {S : SrS} {vb vl vo vi : Value} {n : Nat} {xs : List Value} (hP : SrP base S P a vb vl vo vi) (hI : a.ownsRow base 3 1 vi n xs) (h : Frx (fun k => k ≠ P ∧ some k ≠ vi.ownBlock) a b) : Fr4 base a b :=
  ⟨h.os, h.tape, h.output, h.size, fun k hk hx => h.block k hk ⟨fun e => by
    subst e
    rcases hP.2 with ⟨h', _⟩ | ⟨g, cap, cur, h', hb, hh, _⟩
    · simp at h'
    · simp only [Value.slice.injEq, Option.some.injEq, Addr.mk.injEq, and_true, true_and] at h'
      obtain ⟨rfl, _⟩ := h'
      rcases hx with hx | hx
      · omega
      · exact (hx _ _ _ hh).1 rfl, fun e => by
    rcases hI.2 with ⟨rfl, _⟩ | ⟨g, cap, cur, rfl, hb, hh, _⟩
    · exact nomatch e
    · have eg : k = g := by simpa [Value.ownBlock] using e
      subst eg
      rcases hx with hx | hx
      · omega
      · exact (hx _ _ _ hh).2.2.2 rfl⟩⟩
/-- Rows of other kinds stay. -/
theorem Fr4.own {base lo : Nat} {a b : World} {e : TypeId} {q n : Nat} {v : Value} {xs : List Value} (hf : Fr4 base a b) (h : a.ownsRow lo e q v n xs) (he : e ≠ 131 ∧ e ≠ 112 ∧ e ≠ 114 ∧ e ≠ 3) : b.ownsRow lo e q v n xs := by
  obtain ⟨h1, h2⟩ := h
  refine ⟨h1, h2.imp id fun ⟨g, cap, cur, e1, e2, hh, e4⟩ => ⟨g, cap, cur, e1, e2, ?_, e4⟩⟩
  rw [hf.block g (Array.getElem?_eq_some_iff.1 hh).1 (.inr fun cs t fz hx => by
    rw [hh] at hx
    injection hx with hx
    injection hx with _ hx _
    rw [← hx]; exact he)]
  exact hh
theorem Fr4.sl {α : Type} {q : Nat} {E : Elem α} (hE : Stays q E) {base : Nat} {w w' : World} {a : Option Addr} {l : List α} {bs : List Nat} (g : Fr4 base w w') (h : Sl q E w a l bs) (hn : ∀ x ∈ bs, x < base) : Sl q E w' a l bs :=
  h.alike hE fun b hb => by
    have hl := h.lt hE b hb
    have e := g.block b hl (.inl (hn b hb))
    exact ⟨Nat.lt_of_lt_of_le hl g.size, fun o => World.cell?_of_block e, fun o => World.frozen?_of_block e⟩

/-- What a search knows: the best costs, the offers, which of them are open. -/
structure Sig where
  bl : List Cst
  l : List OffD
  pd : List Nat
/-- .. in memory. -/
structure St4 (base P : Nat) (S : SrS) (vl : Value) (w : World) (s : Sig) : Prop where
  out : ∃ vb vo vi ys, SrP base S P w vb vl vo vi ∧ SrB base w vb s.bl ∧ SrO base w vo s.l ∧ w.ownsRow base 3 1 vi ys.length (intsN ys) ∧ ys.Perm s.pd ∧ Hp (okey s.l) ys
theorem St4.bel {base P : Nat} {S : SrS} {vl : Value} {w w' : World} {s : Sig} (h : St4 base P S vl w s) (hb : Bel w w') : St4 base P S vl w' s := by
  obtain ⟨vb, vo, vi, ys, h1, h2, h3, h4, h5, h6⟩ := h.out
  exact ⟨⟨vb, vo, vi, ys, own_bel h1 hb, own_bel h2 hb, own_bel h3 hb, own_bel h4 hb, h5, h6⟩⟩
/-- An offer is made. -/
def Sig.offer (s : Sig) (r : Nat) (c : Cst) : Sig := ⟨s.bl.set r c, s.l ++ [⟨c, r⟩], s.l.length :: s.pd⟩
theorem flat_set2 : ∀ (l : List Cst) (r : Nat) (c : Cst), r < l.length → ((l.flatMap cstCs).set (r * 2) (.int .i64 c.t)).set (r * 2 + 1) (.int .i64 c.c) = (l.set r c).flatMap cstCs
  | d :: l, 0, c, _ => by simp [cstCs]
  | d :: l, r + 1, c, h => by
    have h' : r < l.length := by simpa using h
    have ih := flat_set2 l r c h'
    rw [List.set_cons_succ, List.flatMap_cons, List.flatMap_cons, ← ih, show (r + 1) * 2 = r * 2 + 1 + 1 by omega, show r * 2 + 1 + 1 + 1 = r * 2 + 1 + 1 + 1 from rfl]
    simp only [cstCs, List.cons_append, List.nil_append, List.set_cons_succ]
theorem okey_app {l : List OffD} {d : OffD} {y : Nat} (h : y < l.length) : okey (l ++ [d]) y = okey l y := by
  unfold okey
  rw [List.getElem?_append_left h]
theorem Hp.app {l : List OffD} {d : OffD} {ys : List Nat} (h : Hp (okey l) ys) (hy : ∀ y ∈ ys, y < l.length) : Hp (okey (l ++ [d])) ys := fun j hj h0 => by
  rw [okey_app (hy _ (List.getElem_mem _)), okey_app (hy _ (List.getElem_mem _))]
  exact h j hj h0
theorem SrP.setO {base : Nat} {S : SrS} {P : Nat} {w : World} {vb vl vo vi : Value} (h : SrP base S P w vb vl vo vi) (u : Value) : SrP base S P (w.setCell ⟨P, 11, none⟩ u) vb vl u vi := (h.stored 11 u).1
/-- The offer is laid down, not yet open. -/
structure OfCut (base P : Nat) (S : SrS) (vl : Value) (s : Sig) (r : Nat) (c : Cst) (m n gb cb : Nat) (vi : Value) (ys : List Nat) (w wx : World) : Prop where
  out : ∃ oa2 oc2, wx.ownsRow base 114 3 (.slice oa2 (m + 1) oc2) (m + 1) ((s.l ++ [(⟨c, r⟩ : OffD)]).flatMap offCs) ∧ SrP base S P wx (.slice (some ⟨gb, 0, none⟩) n cb) vl (.slice oa2 (m + 1) oc2) vi ∧ wx.ownsRow base 112 2 (.slice (some ⟨gb, 0, none⟩) n cb) n ((s.bl.set r c).flatMap cstCs) ∧ wx.ownsRow base 3 1 vi ys.length (intsN ys) ∧ Fr4 base w wx
theorem OfCut.put {base P : Nat} {S : SrS} {vl : Value} {s : Sig} {r : Nat} {c : Cst} {m n gb cb : Nat} {vi : Value} {ys : List Nat} {w Y : World} {oa oa2 : Option Addr} {oc oc2 : Nat} (hO : Y.ownsRow base 114 3 (.slice oa2 (m + 1) oc2) (m + 1) (s.l.flatMap offCs ++ [.int .i64 c.t, .int .i64 c.c, .int .i64 (r : Int)]))
    (hP : SrP base S P Y (.slice (some ⟨gb, 0, none⟩) n cb) vl (.slice oa m oc) vi) (hB : Y.ownsRow base 112 2 (.slice (some ⟨gb, 0, none⟩) n cb) n ((s.bl.set r c).flatMap cstCs)) (hI : Y.ownsRow base 3 1 vi ys.length (intsN ys)) (hF : Fr4 base w Y) :
    OfCut base P S vl s r c m n gb cb vi ys w (Y.setCell ⟨P, 11, none⟩ (.slice oa2 (m + 1) oc2)) := by
  refine ⟨oa2, oc2, ?_, SrP.setO hP _, own_setO hB hP (by decide) 11 _, own_setO hI hP (by decide) 11 _, hF.trans (Fr4.ofOwn hP (by decide) (hP.stored 11 _).2)⟩
  have h := own_setO hO hP (by decide) 11 (.slice oa2 (m + 1) oc2)
  rw [List.flatMap_append]
  exact h
theorem own_frx {X : Nat → Prop} {lo : Nat} {a b : World} {e : TypeId} {q n : Nat} {v : Value} {xs : List Value} (h : a.ownsRow lo e q v n xs) (hf : Frx X a b) (hx : ∀ k, v.ownBlock = some k → X k) : b.ownsRow lo e q v n xs := by
  obtain ⟨h1, h2⟩ := h
  refine ⟨h1, h2.imp id fun ⟨g, cap, cur, e1, e2, hh, e4⟩ => ⟨g, cap, cur, e1, e2, ?_, e4⟩⟩
  rw [hf.block g (Array.getElem?_eq_some_iff.1 hh).1 (hx g (by rw [e1]; rfl))]
  exact hh
theorem infoOf : (Tryz.prog.info? 114).map (fun i => (i.zero, i.size, i.bytes)) = some (some (.agg #[.int .i64 0, .int .i64 0, .int .i64 0]), 3, 24) := by kernel_rfl

set_option maxRecDepth 100000 in
set_option maxHeartbeats 4000000 in
theorem offer_any (base P : Nat) (S : SrS) (vl : Value) (s : Sig) (r : Nat) (c : Cst) (w : World) (hS : St4 base P S vl w s) (hr : r < s.bl.length) (hp : ∀ y ∈ s.pd, y < s.l.length) (hk : okO s.l) (hc : 0 ≤ c.t ∧ 0 ≤ c.c ∧ c.c < 1048576) (hm : s.l.length < 100000000) (hpm : s.pd.length ≤ 100000000) (hbm : s.bl.length ≤ 1000000) :
    Calls Tryz.prog 85 #[.pointer (some ⟨P, 0, none⟩), .int .i64 (r : Int), cstV c] w fun e w' => e = .returned (.tuple #[]) ∧ St4 base P S vl w' (s.offer r c) ∧ Fr4 base w w' := by
  obtain ⟨i0, hi0, hz0, hz1, hz2⟩ := info_parts infoOf
  obtain ⟨vb, vo, vi, ys, hP, hB, hO, hI, hYp, hH⟩ := hS.out
  obtain ⟨gb, cb, rfl, hgb, hgbl⟩ := own_in hB (by omega)
  obtain ⟨oa, oc, rfl⟩ := own_shape hO
  obtain ⟨m, HM⟩ : ∃ m, Hid (s.l.length = m) := ⟨_, (rfl : s.l.length = _)⟩
  obtain ⟨n, HN⟩ : ∃ m, Hid (s.bl.length = m) := ⟨_, (rfl : s.bl.length = _)⟩
  have hB0 := hB
  have hO0 := hO
  clear hB hO
  have hB : w.ownsRow base 112 2 (.slice (some ⟨gb, 0, none⟩) n cb) n (s.bl.flatMap cstCs) := by rw [← HN.out]; exact hB0
  have hO : w.ownsRow base 114 3 (.slice oa m oc) m (s.l.flatMap offCs) := by rw [← HM.out]; exact hO0
  rw [HM.out] at hm hP
  rw [HN.out] at hP hbm
  have hrn : r < n := by rw [← HN.out]; exact hr
  have hrI : (r : Int) < (n : Int) := by omega
  have hPl := SrP.lt hP
  obtain ⟨W, HW⟩ : ∃ W, Hid (W = w.alloc (.cells #[.int .i64 c.t, .int .i64 c.c] 112)) := ⟨_, (rfl : w.alloc (.cells #[.int .i64 c.t, .int .i64 c.c] 112) = _)⟩
  have hBW : Bel w W := by rw [HW.out]; exact bel_alloc (Bel.refl _) _
  have XW : Blk W w.heap.size [.int .i64 c.t, .int .i64 c.c] := by rw [HW.out]; exact Blk.new w [.int .i64 c.t, .int .i64 c.c] _
  have hP1 := own_bel hP hBW
  have hB1 := own_bel hB hBW
  have hO1 := own_bel hO hBW
  have hI1 := own_bel hI hBW
  have p9 : W.cell? ⟨P, 9, none⟩ = some (.slice (some ⟨gb, 0, none⟩) n cb) := SrP.at hP1 9 (by omega)
  have pl := (SrP.lt hP1).2
  have k0 := XW.cell 0 (by simp)
  have k1 := XW.cell 1 (by simp)
  simp only [List.getElem_cons_zero, List.getElem_cons_succ] at k0 k1
  have kl := XW.lt
  obtain ⟨b0, b1⟩ := SrB.at (own_bel hB0 hBW) rfl hr
  have fb0 := World.ownsRow.frozenAt hB1 (r * 2)
  have fb1 := World.ownsRow.frozenAt hB1 (r * 2 + 1)
  have gbl := (World.ownsRow.lt hB1 gb rfl).2
  obtain ⟨w3, Hw3⟩ : ∃ X, Hid (X = ((W.setCell ⟨gb, r * 2, none⟩ (.int .i64 c.t)).setCell ⟨gb, r * 2 + 1, none⟩ (.int .i64 c.c)).drew) := ⟨_, (rfl : ((W.setCell ⟨gb, r * 2, none⟩ (.int .i64 c.t)).setCell ⟨gb, r * 2 + 1, none⟩ (.int .i64 c.c)).drew = _)⟩
  have hgw : gb ≠ w.heap.size := by omega
  have hPw : P ≠ w.heap.size := by omega
  have hB2 := (World.ownsRow.stored hB1 (r * 2) (.int .i64 c.t)).1
  have hB3 : w3.ownsRow base 112 2 (.slice (some ⟨gb, 0, none⟩) n cb) n ((s.bl.set r c).flatMap cstCs) := by
    rw [Hw3.out, ← flat_set2 s.bl r c hr]
    exact (World.ownsRow.stored hB2 (r * 2 + 1) (.int .i64 c.c)).1
  have hP3 : SrP base S P w3 (.slice (some ⟨gb, 0, none⟩) n cb) vl (.slice oa m oc) vi := by rw [Hw3.out]; exact own_setO (own_setO hP1 hB1 (by decide) _ _) hB2 (by decide) _ _
  have hO3 : w3.ownsRow base 114 3 (.slice oa m oc) m (s.l.flatMap offCs) := by rw [Hw3.out]; exact own_setO (own_setO hO1 hB1 (by decide) _ _) hB2 (by decide) _ _
  have hI3 : w3.ownsRow base 3 1 vi ys.length (intsN ys) := by rw [Hw3.out]; exact own_setO (own_setO hI1 hB1 (by decide) _ _) hB2 (by decide) _ _
  have HF3 : Hid (Fr4 base w w3) := (by
    rw [Hw3.out]
    exact ((Fr4.bel hBW).trans ((Fr4.ofOwn hB1 (by decide) (World.ownsRow.stored hB1 (r * 2) (.int .i64 c.t)).2).trans (Fr4.ofOwn hB2 (by decide) (World.ownsRow.stored hB2 (r * 2 + 1) (.int .i64 c.c)).2))).trans (Fr4.bel (Bel.refl _).drew) : Fr4 base w w3)
  have hX3 : Blk w3 w.heap.size [.int .i64 c.t, .int .i64 c.c] := by rw [Hw3.out]; exact ((XW.far hgw).far hgw).bel (Bel.refl _).drew
  have hs3 : w.heap.size < w3.heap.size := hX3.lt
  have hbs : base ≤ w.heap.size := by omega
  obtain ⟨nw, Hwc⟩ : ∃ n, w.heap.size = n := ⟨_, rfl⟩
  rw [Hwc] at hX3 hs3 hbs hPw k0 k1 kl hgw
  have HC0 : Hid (w3.drew.cell? ⟨nw, 0, none⟩ = some (.int .i64 c.t) ∧ w3.drew.cell? ⟨nw, 1, none⟩ = some (.int .i64 c.c)) := ⟨hX3.cell 0 (by simp), hX3.cell 1 (by simp)⟩
  have HOl : Hid (∀ k, (Value.slice oa m oc).ownBlock = some k → k < nw) := fun k e => by rw [← Hwc]; exact (hO.lt k e).2
  have HY : Hid (∀ y ∈ ys, y < s.l.length) := fun y h => hp y (hYp.mem_iff.1 h)
  have HYp : Hid (ys.Perm s.pd) := hYp
  have HH : Hid (Hp (okey s.l) ys) := hH
  have HK : Hid (okO (s.l ++ [⟨c, r⟩])) := (fun i h => by
    rw [List.length_append] at h
    rw [List.getElem_append]
    split
    · exact hk i _
    · simpa using hc : okO (s.l ++ [⟨c, r⟩]))
  have hym : ys.length ≤ 100000000 := by rw [hYp.length_eq]; exact hpm
  clear hB0 hO0 hP hB hO hI hP1 hB1 hO1 hI1 hB2 hYp hH hk hp hS
  go_enter Tryz.func85, Tryz.ntmps85
  go_upto_region 1 with fail
  rw [← HW.out]
  go_big_region
  rw [← Hw3.out]
  clear p9 pl k0 k1 kl b0 b1 fb0 fb1 gbl XW HW Hw3
  go_upto_region 2 with fail
  go_cut [] (fun wx => OfCut base P S vl s r c m n gb cb vi ys w3 wx)
  case first =>
    refine wp_region_noPanic ?_
    refine wp_region_held_drew (S := (fun w' => w'.cell? ⟨nw, 0, none⟩ = some (.int .i64 c.t) ∧ w'.cell? ⟨nw, 1, none⟩ = some (.int .i64 c.c))) (by kernel_rfl) (HC0.out) (fun hHeld => ?_)
    have hY0 : Bel w3 w3.drew := (Bel.refl _).drew
    generalize w3.drew = Y at hHeld hY0 ⊢
    refine tk 0 hHeld ?_; refine tk 1 hHeld ?_; refine tk 2 hHeld ?_; refine tk 3 hHeld ?_; refine tk 5 hHeld ?_; refine tk 6 hHeld ?_
    refine tk 7 hHeld ?_
    have hP3y := own_bel hP3 hY0
    have hB3y := own_bel hB3 hY0
    have hI3y := own_bel hI3 hY0
    have hO3y := own_bel hO3 hY0
    have hYs0 := hY0.out.size
    have y11 : Y.cell? ⟨P, 11, none⟩ = some (.slice oa m oc) := SrP.at hP3y 11 (by omega)
    have yl := (SrP.lt hP3y).2
    refine rd2 4 8 (fun K hK => ?_) (fun K hK => ?_)
    · go_simp
      refine hK.out _ _ (hHeld) (fun hHeld' => ?_)
      clear hK K hHeld
      have hHeld := hHeld'
      clear hHeld'
      try simp only [Act.put, List.setIfInBounds_toArray, List.set_cons_zero, List.set_cons_succ]
      refine rd1 8 (fun K hK => ?_)
      go_simp
      refine hK.out _ _ (⟨bel_cellM (bel_alloc (Bel.refl Y) _) (by omega) hHeld.1, bel_cellM (bel_alloc (Bel.refl Y) _) (by omega) hHeld.2⟩) (fun hHeld' => ?_)
      clear hK K hHeld
      have hHeld := hHeld'
      clear hHeld'
      try simp only [Act.put, List.setIfInBounds_toArray, List.set_cons_zero, List.set_cons_succ]
      have hOA := hO3y.alloc (.cells #[.int .i64 c.t, .int .i64 c.c, .int .i64 (r : Int)] 114)
      have hPA := World.ownsRow.alloc hP3y (.cells #[.int .i64 c.t, .int .i64 c.c, .int .i64 (r : Int)] 114)
      have hBA := World.ownsRow.alloc hB3y (.cells #[.int .i64 c.t, .int .i64 c.c, .int .i64 (r : Int)] 114)
      have hIA := hI3y.alloc (.cells #[.int .i64 c.t, .int .i64 c.c, .int .i64 (r : Int)] 114)
      have hNB := heap_alloc_new Y (.cells #[.int .i64 c.t, .int .i64 c.c, .int .i64 (r : Int)] 114)
      have hFrA : Fr4 base w3 (Y.alloc (.cells #[.int .i64 c.t, .int .i64 c.c, .int .i64 (r : Int)] 114)) := Fr4.bel (bel_step hY0 (bel_alloc (Bel.refl Y) _))
      have hYs : w3.heap.size ≤ (Y.alloc (.cells #[.int .i64 c.t, .int .i64 c.c, .int .i64 (r : Int)] 114)).heap.size := (bel_step hY0 (bel_alloc (Bel.refl Y) _)).out.size
      generalize Y.alloc (.cells #[.int .i64 c.t, .int .i64 c.c, .int .i64 (r : Int)] 114) = YA at *
      refine rd1 9 (fun K hK => ?_)
      refine step_app _ rfl _ _ _ rfl base 114 i0 (.agg #[.int .i64 0, .int .i64 0, .int .i64 0]) 3 24 Tryz.underlying106 hi0 hz0 hz1 hz2 rfl (by decide) (.slice oa m oc) m _ (by rfl) hOA ⟨Y.heap.size, 0, none⟩ 1 1 [.int .i64 c.t, .int .i64 c.c, .int .i64 (r : Int)] (by rfl) (by rfl) (World.news_of_block (cs := #[.int .i64 c.t, .int .i64 c.c, .int .i64 (r : Int)]) hNB) (by simp [Value.oneCell']) (by unfold maxLen; omega) (by omega) (by omega) ?_
      intro vo2 Y2 hO2 hg2
      obtain ⟨oa2, oc2, rfl⟩ := own_shape hO2
      have hP2 := own_keepO hPA hOA (by decide) hg2
      have hB2 := own_keepO hBA hOA (by decide) hg2
      have hI2 := own_keepO hIA hOA (by decide) hg2
      have hFr2 := Fr4.ofOwn hOA (by decide) hg2
      have hc2 : Y2.cell? ⟨nw, 0, none⟩ = some (.int .i64 c.t) ∧ Y2.cell? ⟨nw, 1, none⟩ = some (.int .i64 c.c) := (by have e := hg2.block nw (by have := hYs; omega) (fun e => absurd (HOl.out nw e.symm) (Nat.lt_irrefl _)); exact ⟨by rw [World.cell?_of_block (a := ⟨nw, 0, none⟩) e]; exact hHeld.1, by rw [World.cell?_of_block (a := ⟨nw, 1, none⟩) e]; exact hHeld.2⟩)
      refine hK.out _ _ (hc2) (fun hHeld' => ?_)
      clear hK K hHeld
      have hHeld := hHeld'
      clear hHeld'
      try simp only [Act.put, List.setIfInBounds_toArray, List.set_cons_zero, List.set_cons_succ]
      refine tk 10 hHeld ?_; refine tk 11 hHeld ?_
      have q11 : Y2.cell? ⟨P, 11, none⟩ = some (.slice oa m oc) := SrP.at hP2 11 (by omega)
      have f11 : Y2.frozen? ⟨P, 11, none⟩ = false := World.ownsRow.frozenAt hP2 11
      have ql := (SrP.lt hP2).2
      refine rd1 12 (fun K hK => ?_)
      go_simp
      refine hK.out _ _ ((by have hne : P ≠ nw := hPw; exact ⟨by rw [World.cell?_setCell_other _ _ _ _ (fun e => hne (congrArg Addr.block e))]; exact hHeld.1, by rw [World.cell?_setCell_other _ _ _ _ (fun e => hne (congrArg Addr.block e))]; exact hHeld.2⟩)) (fun hHeld' => ?_)
      clear hK K hHeld
      have hHeld := hHeld'
      clear hHeld'
      try simp only [Act.put, List.setIfInBounds_toArray, List.set_cons_zero, List.set_cons_succ]
      refine wpAnyH_done (by kernel_rfl) ?_ _
      refine NoPanic.normal ?_
      go_wp2_with fail
      go_meet
      case rel => exact OfCut.put hO2 hP2 hB2 hI2 (hFrA.trans hFr2)
    · go_simp
      refine hK.out _ _ (⟨bel_cellM (bel_alloc (Bel.refl Y) _) (by omega) hHeld.1, bel_cellM (bel_alloc (Bel.refl Y) _) (by omega) hHeld.2⟩) (fun hHeld' => ?_)
      clear hK K hHeld
      have hHeld := hHeld'
      clear hHeld'
      try simp only [Act.put, List.setIfInBounds_toArray, List.set_cons_zero, List.set_cons_succ]
      have hOA := hO3y.alloc (.cells #[.int .i64 c.t, .int .i64 c.c, .int .i64 (r : Int)] 114)
      have hPA := World.ownsRow.alloc hP3y (.cells #[.int .i64 c.t, .int .i64 c.c, .int .i64 (r : Int)] 114)
      have hBA := World.ownsRow.alloc hB3y (.cells #[.int .i64 c.t, .int .i64 c.c, .int .i64 (r : Int)] 114)
      have hIA := hI3y.alloc (.cells #[.int .i64 c.t, .int .i64 c.c, .int .i64 (r : Int)] 114)
      have hNB := heap_alloc_new Y (.cells #[.int .i64 c.t, .int .i64 c.c, .int .i64 (r : Int)] 114)
      have hFrA : Fr4 base w3 (Y.alloc (.cells #[.int .i64 c.t, .int .i64 c.c, .int .i64 (r : Int)] 114)) := Fr4.bel (bel_step hY0 (bel_alloc (Bel.refl Y) _))
      have hYs : w3.heap.size ≤ (Y.alloc (.cells #[.int .i64 c.t, .int .i64 c.c, .int .i64 (r : Int)] 114)).heap.size := (bel_step hY0 (bel_alloc (Bel.refl Y) _)).out.size
      generalize Y.alloc (.cells #[.int .i64 c.t, .int .i64 c.c, .int .i64 (r : Int)] 114) = YA at *
      have ya11 : YA.cell? ⟨P, 11, none⟩ = some (.slice oa m oc) := SrP.at hPA 11 (by omega)
      have yal := (SrP.lt hPA).2
      refine rd1 4 (fun K hK => ?_)
      go_simp
      refine hK.out _ _ (hHeld) (fun hHeld' => ?_)
      clear hK K hHeld
      have hHeld := hHeld'
      clear hHeld'
      try simp only [Act.put, List.setIfInBounds_toArray, List.set_cons_zero, List.set_cons_succ]
      refine rd1 9 (fun K hK => ?_)
      refine step_app _ rfl _ _ _ rfl base 114 i0 (.agg #[.int .i64 0, .int .i64 0, .int .i64 0]) 3 24 Tryz.underlying106 hi0 hz0 hz1 hz2 rfl (by decide) (.slice oa m oc) m _ (by rfl) hOA ⟨Y.heap.size, 0, none⟩ 1 1 [.int .i64 c.t, .int .i64 c.c, .int .i64 (r : Int)] (by rfl) (by rfl) (World.news_of_block (cs := #[.int .i64 c.t, .int .i64 c.c, .int .i64 (r : Int)]) hNB) (by simp [Value.oneCell']) (by unfold maxLen; omega) (by omega) (by omega) ?_
      intro vo2 Y2 hO2 hg2
      obtain ⟨oa2, oc2, rfl⟩ := own_shape hO2
      have hP2 := own_keepO hPA hOA (by decide) hg2
      have hB2 := own_keepO hBA hOA (by decide) hg2
      have hI2 := own_keepO hIA hOA (by decide) hg2
      have hFr2 := Fr4.ofOwn hOA (by decide) hg2
      have hc2 : Y2.cell? ⟨nw, 0, none⟩ = some (.int .i64 c.t) ∧ Y2.cell? ⟨nw, 1, none⟩ = some (.int .i64 c.c) := (by have e := hg2.block nw (by have := hYs; omega) (fun e => absurd (HOl.out nw e.symm) (Nat.lt_irrefl _)); exact ⟨by rw [World.cell?_of_block (a := ⟨nw, 0, none⟩) e]; exact hHeld.1, by rw [World.cell?_of_block (a := ⟨nw, 1, none⟩) e]; exact hHeld.2⟩)
      refine hK.out _ _ (hc2) (fun hHeld' => ?_)
      clear hK K hHeld
      have hHeld := hHeld'
      clear hHeld'
      try simp only [Act.put, List.setIfInBounds_toArray, List.set_cons_zero, List.set_cons_succ]
      refine tk 10 hHeld ?_; refine tk 11 hHeld ?_
      have q11 : Y2.cell? ⟨P, 11, none⟩ = some (.slice oa m oc) := SrP.at hP2 11 (by omega)
      have f11 : Y2.frozen? ⟨P, 11, none⟩ = false := World.ownsRow.frozenAt hP2 11
      have ql := (SrP.lt hP2).2
      refine rd1 12 (fun K hK => ?_)
      go_simp
      refine hK.out _ _ ((by have hne : P ≠ nw := hPw; exact ⟨by rw [World.cell?_setCell_other _ _ _ _ (fun e => hne (congrArg Addr.block e))]; exact hHeld.1, by rw [World.cell?_setCell_other _ _ _ _ (fun e => hne (congrArg Addr.block e))]; exact hHeld.2⟩)) (fun hHeld' => ?_)
      clear hK K hHeld
      have hHeld := hHeld'
      clear hHeld'
      try simp only [Act.put, List.setIfInBounds_toArray, List.set_cons_zero, List.set_cons_succ]
      refine wpAnyH_done (by kernel_rfl) ?_ _
      refine NoPanic.normal ?_
      go_wp2_with fail
      go_meet
      case rel => exact OfCut.put hO2 hP2 hB2 hI2 (hFrA.trans hFr2)
  case rest =>
    clear hP3 hB3 hO3 hI3 HC0
    obtain ⟨oa2, oc2, hO4, hP4, hB4, hI4, hF4⟩ := hcut.out
    obtain ⟨wA, rfl⟩ : ∃ V, V = wc := ⟨_, rfl⟩
    have hml : m < (s.l ++ [(⟨c, r⟩ : OffD)]).length := by rw [List.length_append, HM.out]; simp
    have hlm : (s.l ++ [(⟨c, r⟩ : OffD)]).length ≤ 100000000 := by rw [List.length_append, HM.out]; simp; omega
    have hw8 : IntKind.i64.wrap ((m : Int) + 1 - 1) = (m : Int) := by rw [IntKind.wrap_i64]; omega
    have hw9 : IntKind.i64.wrap (m : Int) = (m : Int) := by rw [IntKind.wrap_i64]; omega
    clear hcut
    go_upto_region 3 with fail
    refine wp_region_noPanic ?_
    refine wp_region_held_drew (S := (fun w' => w'.cell? ⟨P, 11, none⟩ = some (.slice oa2 (m + 1) oc2))) (by kernel_rfl) (SrP.at hP4 11 (by omega)) (fun hHeld => ?_)
    have hY0 : Bel wA wA.drew := (Bel.refl _).drew
    generalize wA.drew = Y at hHeld hY0 ⊢
    refine tk 0 hHeld ?_; refine tk 1 hHeld ?_; refine tk 2 hHeld ?_; refine tk 3 hHeld ?_; refine tk 4 hHeld ?_; refine tk 5 hHeld ?_
    refine tk 6 hHeld ?_; refine tk 7 hHeld ?_; refine tk 8 hHeld ?_
    have hPy := own_bel hP4 hY0
    have hBy := own_bel hB4 hY0
    have hIy := own_bel hI4 hY0
    have hOy : SrO base Y (.slice oa2 (m + 1) oc2) (s.l ++ [(⟨c, r⟩ : OffD)]) := (by have h := own_bel hO4 hY0; show Y.ownsRow base 114 3 (.slice oa2 (m + 1) oc2) (s.l ++ [(⟨c, r⟩ : OffD)]).length _; rw [List.length_append, HM.out]; exact h)
    refine rd1 9 (fun K hK => ?_)
    go_simp
    refine (push_any base P S _ vl _ vi (s.l ++ [(⟨c, r⟩ : OffD)]) ys m Y hPy hOy hIy HK.out (fun y h => by have := HY.out y h; rw [List.length_append]; omega) hml (Hp.app HH.out HY.out) hlm hym).mono ?_
    rintro e wZ ⟨rfl, hZ⟩
    obtain ⟨vi', ys', z1, z2, z3, z4, z5, z6, z7⟩ := hZ.out
    go_wp2_with fail
    refine hK.out _ _ (SrP.at z1 11 (by omega)) (fun hHeld' => ?_)
    clear hK K hHeld
    have hHeld := hHeld'
    clear hHeld'
    try simp only [Act.put, List.setIfInBounds_toArray, List.set_cons_zero, List.set_cons_succ]
    have hBz : wZ.ownsRow base 112 2 (.slice (some ⟨gb, 0, none⟩) n cb) n ((s.bl.set r c).flatMap cstCs) := own_frx hBy z6 (fun k e => ⟨fun ek => own_apart hBy hPy (by decide) e (by rw [ek]; rfl), fun ek => own_apart hBy hIy (by decide) e ek.symm⟩)
    have HE : Hid (St4 base P S vl wZ (s.offer r c) ∧ Fr4 base w wZ) := ⟨⟨_, _, vi', ys', z1, (by show wZ.ownsRow base 112 2 _ (s.bl.set r c).length _; rw [List.length_set, HN.out]; exact hBz), z2, z3, (by have h := z4.trans (HYp.out.cons m); rw [← HM.out] at h; exact h), z5⟩, HF3.out.trans (hF4.trans ((Fr4.bel hY0).trans (Fr4.ofFrx hPy hIy z6)))⟩
    clear z1 z2 z3 z4 z5 z6 z7 hBz hPy hBy hIy hOy hO4 hP4 hB4 hI4
    refine wpAnyH_done (by kernel_rfl) ?_ _
    refine NoPanic.normal ?_
    go_wp2
    go_end0
    exact ⟨rfl, HE.out.1, HE.out.2⟩
end Go.Proofs.YtdlgehnoiaoneaaGreatDoor
