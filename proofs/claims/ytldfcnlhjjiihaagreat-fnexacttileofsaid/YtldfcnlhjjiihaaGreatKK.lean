/-
  How a map that is handed in is read: its value, and what its lists hold, down to the last text.
  Maps as the laws count, copy and compare them: contracts in one word.
-/
import Derived.Test.YtldfcnlhjjiihaaGreatCB
import Derived.Test.YtldfcnlhjjiihaaGreatChartF
import Derived.Test.YtldfcnlhjjiihaaGreatKA
namespace Go.Proofs.YtldfcnlhjjiihaaGreat
open Go.ChangeShapes Go.WideShapes Go.ChangeAt Go.RowKit Go.Deep Go.Joins

section
variable {H : Type} {enc : TypeId × Value → H} {W : World} {base : Nat} {spare : Nat → Bool} {held : Bool}
theorem cellsBool : Tryz.prog.cellsOf 4 = 1 := by kernel_rfl
theorem cellsSl22 : Tryz.prog.cellsOf 91 = 1 := by kernel_rfl
theorem cellsSl52 : Tryz.prog.cellsOf 56 = 1 := by kernel_rfl
theorem cellsSlP : Tryz.prog.cellsOf 98 = 1 := by kernel_rfl
theorem cellsNode : Tryz.prog.cellsOf 93 = 4 := by kernel_rfl
theorem cellsWay : Tryz.prog.cellsOf 96 = 3 := by kernel_rfl
theorem cellsArea : Tryz.prog.cellsOf 100 = 3 := by kernel_rfl
theorem cellsPart : Tryz.prog.cellsOf 198 = 2 := by kernel_rfl
theorem cellsMap : Tryz.prog.cellsOf 26 = 3 := by kernel_rfl

set_option maxRecDepth 100000 in
theorem openInts {fuel : Nat} {cs : List Value} {x : DataW H × List MemPlace} (h : DataW.trod enc Tryz.prog W base spare held fuel 56 cs = some x) :
  ∃ a c l bs, cs = [.slice a l.length c] ∧ Ints W a l bs ∧ l.length ≤ maxLen := by
 refine open_sl (by decide) Tryz.underlying56 cellsI64 ?_ h
 intro b o n cs x hl hc hx
 obtain ⟨y, e0, _, wy⟩ := DataW.trod_int Tryz.underlying2 hx
 subst e0
 exact ⟨y, [], rfl, in64_of_wf wy, hc 0 (by simp)⟩

set_option maxRecDepth 100000 in
theorem openParts {fuel : Nat} {cs : List Value} {x : DataW H × List MemPlace} (h : DataW.trod enc Tryz.prog W base spare held fuel 98 cs = some x) :
  ∃ a c l bs, cs = [.slice a l.length c] ∧ Parts W a l bs ∧ l.length ≤ maxLen := by
 refine open_sl (by decide) Tryz.underlying98 cellsPart ?_ h
 intro b o n cs x hl hc hx
 obtain ⟨y0, y1, m, _, _, g0, g1⟩ := trod_struct2 Tryz.underlying198 hx
 match cs, hl with
 | [v0, v1], _ =>
  obtain ⟨s0, e0, _, z0⟩ := DataW.trod_int (t := 2) Tryz.underlying2 g0
  obtain ⟨s1, e1, _⟩ := DataW.trod_bool (t := 4) Tryz.underlying4 g1
  have e0 : v0 = .int .i64 s0 := by simpa [cellsI64] using e0
  have e1 : v1 = .bool s1 := by simpa [cellsBool] using e1
  rw [e0, e1] at hc
  exact ⟨⟨s0, s1⟩, [], rfl, in64_of_wf z0, hc 0 (by simp), hc 1 (by simp)⟩

set_option maxRecDepth 100000 in
theorem openNodes {fuel : Nat} {cs : List Value} {x : DataW H × List MemPlace} (h : DataW.trod enc Tryz.prog W base spare held fuel 22 cs = some x) :
  ∃ a c l bs, cs = [.slice a l.length c] ∧ Nodes W a l bs ∧ l.length ≤ maxLen := by
 refine open_sl (by decide) Tryz.underlying22 cellsNode ?_ h
 intro b o n cs x hl hc hx
 obtain ⟨y0, y1, y2, m, _, _, g0, g1, g2⟩ := trod_struct3 Tryz.underlying93 hx
 match cs, hl with
 | [v0, v1, v2, v3], _ =>
  obtain ⟨s0, e0, _, z0⟩ := DataW.trod_int (t := 2) Tryz.underlying2 g0
  have e0 : v0 = .int .i64 s0 := by simpa [cellsI64] using e0
  obtain ⟨p0, p1, m', _, _, k0, k1⟩ := trod_struct2 (t := 90) Tryz.underlying90 g1
  obtain ⟨s1, e1, _, z1⟩ := DataW.trod_int (t := 2) Tryz.underlying2 k0
  obtain ⟨s2, e2, _, z2⟩ := DataW.trod_int (t := 2) Tryz.underlying2 k1
  have e1 : v1 = .int .i64 s1 := by simpa [cellsI64, cellsLPt] using e1
  have e2 : v2 = .int .i64 s2 := by simpa [cellsI64, cellsLPt] using e2
  obtain ⟨ta, tc, tl, tb, e3, t3, l3⟩ := openTags g2
  have e3 : v3 = .slice ta tl.length tc := by simpa [cellsSl22] using e3
  rw [e0, e1, e2, e3] at hc
  exact ⟨⟨s0, s1, s2, tl⟩, tb, in64_of_wf z0, in64_of_wf z1, in64_of_wf z2, hc 0 (by simp), hc 1 (by simp), hc 2 (by simp), ta, tc, l3, hc 3 (by simp), t3⟩

set_option maxRecDepth 100000 in
theorem openWays {fuel : Nat} {cs : List Value} {x : DataW H × List MemPlace} (h : DataW.trod enc Tryz.prog W base spare held fuel 23 cs = some x) :
  ∃ a c l bs, cs = [.slice a l.length c] ∧ Ways W a l bs ∧ l.length ≤ maxLen := by
 refine open_sl (by decide) Tryz.underlying23 cellsWay ?_ h
 intro b o n cs x hl hc hx
 obtain ⟨y0, y1, y2, m, _, _, g0, g1, g2⟩ := trod_struct3 Tryz.underlying96 hx
 match cs, hl with
 | [v0, v1, v2], _ =>
  obtain ⟨s0, e0, _, z0⟩ := DataW.trod_int (t := 2) Tryz.underlying2 g0
  have e0 : v0 = .int .i64 s0 := by simpa [cellsI64] using e0
  obtain ⟨pa, pc, pl, pb, e1, t1, l1⟩ := openInts g1
  have e1 : v1 = .slice pa pl.length pc := by simpa [cellsSl52] using e1
  obtain ⟨ta, tc, tl, tb, e2, t2, l2⟩ := openTags g2
  have e2 : v2 = .slice ta tl.length tc := by simpa [cellsSl22] using e2
  rw [e0, e1, e2] at hc
  exact ⟨⟨s0, pl, tl⟩, pb ++ tb, in64_of_wf z0, hc 0 (by simp), pa, pc, ta, tc, pb, tb, rfl, l1, l2, hc 1 (by simp), t1, hc 2 (by simp), t2⟩

set_option maxRecDepth 100000 in
theorem openAreas {fuel : Nat} {cs : List Value} {x : DataW H × List MemPlace} (h : DataW.trod enc Tryz.prog W base spare held fuel 24 cs = some x) :
  ∃ a c l bs, cs = [.slice a l.length c] ∧ Areas W a l bs ∧ l.length ≤ maxLen := by
 refine open_sl (by decide) Tryz.underlying24 cellsArea ?_ h
 intro b o n cs x hl hc hx
 obtain ⟨y0, y1, y2, m, _, _, g0, g1, g2⟩ := trod_struct3 Tryz.underlying100 hx
 match cs, hl with
 | [v0, v1, v2], _ =>
  obtain ⟨s0, e0, _, z0⟩ := DataW.trod_int (t := 2) Tryz.underlying2 g0
  have e0 : v0 = .int .i64 s0 := by simpa [cellsI64] using e0
  obtain ⟨pa, pc, pl, pb, e1, t1, l1⟩ := openParts g1
  have e1 : v1 = .slice pa pl.length pc := by simpa [cellsSlP] using e1
  obtain ⟨ta, tc, tl, tb, e2, t2, l2⟩ := openTags g2
  have e2 : v2 = .slice ta tl.length tc := by simpa [cellsSl22] using e2
  rw [e0, e1, e2] at hc
  exact ⟨⟨s0, pl, tl⟩, pb ++ tb, in64_of_wf z0, hc 0 (by simp), pa, pc, ta, tc, pb, tb, rfl, l1, l2, hc 1 (by simp), t1, hc 2 (by simp), t2⟩
end

/-- The lists of a map have lengths within int. -/
def MapN (m : MapD) : Prop := m.nodes.length ≤ maxLen ∧ m.ways.length ≤ maxLen ∧ m.areas.length ≤ maxLen

theorem cellsSlN : Tryz.prog.cellsOf 22 = 1 := by kernel_rfl
theorem cellsSlW : Tryz.prog.cellsOf 23 = 1 := by kernel_rfl
theorem cellsSlA : Tryz.prog.cellsOf 24 = 1 := by kernel_rfl
set_option maxRecDepth 100000 in
theorem open_map {H : Type} {enc : TypeId × Value → H} {W : World} {base : Nat} {v : Value} {d : DataW H} {p : List MemPlace}
  (hv : Value.okWide Tryz.prog W .any base 26 v) (h : DataW.Trod enc Tryz.prog W 0 (fun _ => true) true 26 v d p) :
  ∃ m bs, MapV W v m bs ∧ MapN m := by
 obtain ⟨cs, rfl, hcs⟩ := okWide_struct Tryz.underlying26 hv
 obtain ⟨fuel, hf⟩ := h
 rw [cellsMap] at hcs
 obtain ⟨y0, y1, y2, m, _, _, g0, g1, g2⟩ := trod_struct3 Tryz.underlying26 hf
 obtain ⟨l⟩ := cs
 match l, hcs with
 | [v0, v1, v2], _ =>
  obtain ⟨na, nc, nl, nb, e0, t0, l0⟩ := openNodes g0
  have q0 : v0 = .slice na nl.length nc := by simpa [cellsSlN, Value.cells] using e0
  obtain ⟨wa, wc, wl, wb, e1, t1, l1⟩ := openWays g1
  have q1 : v1 = .slice wa wl.length wc := by simpa [cellsSlW, Value.cells] using e1
  obtain ⟨aa, ac, al, ab, e2, t2, l2⟩ := openAreas g2
  have q2 : v2 = .slice aa al.length ac := by simpa [cellsSlA, Value.cells] using e2
  subst q0
  subst q1
  subst q2
  exact ⟨⟨nl, wl, al⟩, _, ⟨na, nc, wa, wc, aa, ac, nb, wb, ab, rfl, rfl, t0, t1, t2⟩, l0, l1, l2⟩
end Go.Proofs.YtldfcnlhjjiihaaGreat

namespace Go.Proofs.YtldfcnlhjjiihaaGreat
open Go.RowKit

theorem sumTo_el {α : Type} (f : α → Nat) {l : List α} {i : Nat} (h : i < l.length) : f l[i] ≤ sumTo f l l.length := by
 have h1 := sumTo_succ f h
 have h2 := sumTo_le f (l := l) (k := i + 1) (n := l.length) (by omega) rfl
 omega
theorem mapL_of {m : MapD} (h : mapSz m ≤ 1048576) : MapL m := by
 unfold mapSz nodesSz waysSz areasSz at h
 refine ⟨by omega, by omega, by omega, fun i hi => ?_, fun i hi => ?_, fun i hi => ?_⟩
 ·have := sumTo_el nodeSz hi
  unfold nodeSz tagsSz at this
  unfold nodeSz tagsSz at h
  omega
 ·have := sumTo_el waySz hi
  unfold waySz tagsSz at this
  unfold waySz tagsSz at h
  omega
 ·have := sumTo_el areaSz hi
  unfold areaSz tagsSz at this
  unfold areaSz tagsSz at h
  omega

theorem szMap_v (v : Value) (m : MapD) (bs : List Nat) (left : Int) (w : World) (hV : MapV w v m bs) (hN : MapN m) (h0 : 0 ≤ left) (h1 : left ≤ 1048576) :
  Calls Tryz.prog 4 #[v, .int .i64 left] w fun e w' => e = .returned (.int .i64 (szR left (mapSz m))) ∧ Bel w w' := by
 obtain ⟨a0, c0, a1, c1, a2, c2, b0, b1, b2, rfl, _, t0, t1, t2⟩ := hV.out
 obtain ⟨k0, k1, k2⟩ := hN
 unfold maxLen at k0 k1 k2
 exact szMap_any _ _ _ m.nodes b0 _ _ _ m.ways b1 _ _ _ m.areas b2 left w t0 rfl t1 rfl t2 rfl k0 k1 k2 h0 h1
theorem toMap_v (v : Value) (m : MapD) (bs : List Nat) (w : World) (hV : MapV w v m bs) (hL : MapL m) :
  Calls Tryz.prog 6 #[v] w fun e w' => ∃ v' bs', e = .returned v' ∧ MapV w' v' m bs' ∧ Fresh w w' bs' ∧ Bel w w' := by
 obtain ⟨a0, c0, a1, c1, a2, c2, b0, b1, b2, rfl, _, t0, t1, t2⟩ := hV.out
 refine (toMap_any _ _ _ m.nodes b0 _ _ _ m.ways b1 _ _ _ m.areas b2 w t0 rfl t1 rfl t2 rfl hL.l0 hL.u0 hL.l1 hL.u1 hL.l2 hL.u2).mono ?_
 rintro e w' ⟨B0, d0, B1, d1, B2, d2, rfl, h0, h1, h2, hF, hb⟩
 exact ⟨_, _, rfl, ⟨_, _, _, _, _, _, d0, d1, d2, rfl, rfl, h0, h1, h2⟩, hF, hb⟩
theorem eqMap_v (v v' : Value) (m : MapD) (bs bs' : List Nat) (w : World) (hV : MapV w v m bs) (hV' : MapV w v' m bs') (hL : MapL m) :
  Calls Tryz.prog 10 #[v, v'] w fun e w' => e = .returned (.bool true) ∧ Bel w w' := by
 obtain ⟨a0, c0, a1, c1, a2, c2, b0, b1, b2, rfl, _, t0, t1, t2⟩ := hV.out
 obtain ⟨a0', c0', a1', c1', a2', c2', b0', b1', b2', rfl, _, t0', t1', t2'⟩ := hV'.out
 exact eqMap_same _ _ _ m.nodes b0 _ _ _ m.ways b1 _ _ _ m.areas b2 _ _ b0' _ _ b1' _ _ b2' w t0 rfl t1 rfl t2 rfl t0' t1' t2' hL.l0 hL.u0 hL.l1 hL.u1 hL.l2 hL.u2
end Go.Proofs.YtldfcnlhjjiihaaGreat
