/-
  How a timetable that is handed in is read: its value, and what its lists hold.
-/
import Derived.Test.YtkmccjjghpnejaaLinD
import Derived.Test.YtkmccjjghpnejaaCB
namespace Go.Proofs.Ytkmccjjghpnejaa
open Go.ChangeShapes Go.WideShapes Go.ChangeAt Go.RowKit Go.Deep Go.Joins

/-- The value reads as this timetable and lies in these blocks. -/
def LinV (w : World) (v : Value) (g : LinesD) (bs : List Nat) : Prop :=
 ∃ a0 c0 a1 c1 a2 c2 b0 b1 b2, bs = b0 ++ (b1 ++ b2) ∧ v = .agg #[.slice a0 g.stops.length c0, .slice a1 g.trips.length c1, .slice a2 g.walks.length c2] ∧ StrL w a0 g.stops b0 ∧ TrpL w a1 g.trips b1 ∧ WlkL w a2 g.walks b2
theorem LinV.bel {w w' : World} {v : Value} {g : LinesD} {bs : List Nat} (h : LinV w v g bs) (hb : Bel w w') : LinV w' v g bs := by
 obtain ⟨a0, c0, a1, c1, a2, c2, b0, b1, b2, e1, e2, h0, h1, h2⟩ := h
 exact ⟨a0, c0, a1, c1, a2, c2, b0, b1, b2, e1, e2, h0.bel strE hb, h1.bel trpE hb, h2.bel wlkE hb⟩
theorem LinV.lt {w : World} {v : Value} {g : LinesD} {bs : List Nat} (h : LinV w v g bs) : ∀ x ∈ bs, x < w.heap.size := by
 obtain ⟨a0, c0, a1, c1, a2, c2, b0, b1, b2, e1, _, h0, h1, h2⟩ := h
 subst e1
 intro x hx
 rcases List.mem_append.1 hx with hx | hx
 ·exact h0.lt strE x hx
 ·rcases List.mem_append.1 hx with hx | hx
  ·exact h1.lt trpE x hx
  ·exact h2.lt wlkE x hx
theorem LinV.alike {w w' : World} {v : Value} {g : LinesD} {bs : List Nat} (h : LinV w v g bs) (hA : Alike w w' bs) : LinV w' v g bs := by
 obtain ⟨a0, c0, a1, c1, a2, c2, b0, b1, b2, e1, e2, h0, h1, h2⟩ := h
 subst e1
 exact ⟨a0, c0, a1, c1, a2, c2, b0, b1, b2, rfl, e2, h0.alike strE (hA.sub fun _ hx => by simp [hx]), h1.alike trpE (hA.sub fun _ hx => by simp [hx]), h2.alike wlkE (hA.sub fun _ hx => by simp [hx])⟩
/-- The lists of a timetable have lengths within int. -/
def LinN (g : LinesD) : Prop := g.stops.length ≤ maxLen ∧ g.trips.length ≤ maxLen ∧ g.walks.length ≤ maxLen
/-- .. and within what the laws let by. -/
def LinQ (g : LinesD) : Prop := g.stops.length ≤ 1048576 ∧ g.trips.length ≤ 1048576 ∧ g.walks.length ≤ 1048576 ∧ ∀ i (h : i < g.trips.length), g.trips[i].calls.length ≤ 1048576
theorem cellsCal : Try.prog.cellsOf 163 = 3 := by kernel_rfl
theorem cellsTrp : Try.prog.cellsOf 132 = 3 := by kernel_rfl
theorem cellsWlk : Try.prog.cellsOf 135 = 3 := by kernel_rfl
theorem cellsLin : Try.prog.cellsOf 43 = 3 := by kernel_rfl
theorem cellsSlSr : Try.prog.cellsOf 39 = 1 := by kernel_rfl
theorem cellsSlCal : Try.prog.cellsOf 130 = 1 := by kernel_rfl
theorem cellsSlTrp : Try.prog.cellsOf 40 = 1 := by kernel_rfl
theorem cellsSlWlk : Try.prog.cellsOf 41 = 1 := by kernel_rfl
section
variable {H : Type} {enc : TypeId × Value → H} {W : World} {base : Nat} {spare : Nat → Bool} {held : Bool}
set_option maxRecDepth 100000 in
theorem openStrs {fuel : Nat} {cs : List Value} {x : DataW H × List MemPlace} (h : DataW.trod enc Try.prog W base spare held fuel 39 cs = some x) :
  ∃ a c l bs, cs = [.slice a l.length c] ∧ StrL W a l bs ∧ l.length ≤ maxLen := by
 refine open_sl (by decide) Try.underlying39 cellsStr ?_ h
 intro b o n cs x hl hc hx
 match cs, hl with
 | [v0], _ =>
  obtain ⟨s0, e0, _, z0⟩ := DataW.trod_string (t := 9) Try.underlying9 hx
  have e0 : v0 = .string s0 := by simpa using e0
  rw [e0] at hc
  exact ⟨s0, [], rfl, z0, hc 0 (by simp)⟩
set_option maxRecDepth 100000 in
theorem openCals {fuel : Nat} {cs : List Value} {x : DataW H × List MemPlace} (h : DataW.trod enc Try.prog W base spare held fuel 130 cs = some x) :
  ∃ a c l bs, cs = [.slice a l.length c] ∧ CalL W a l bs ∧ l.length ≤ maxLen := by
 refine open_sl (by decide) Try.underlying130 cellsCal ?_ h
 intro b o n cs x hl hc hx
 obtain ⟨y0, y1, y2, m, _, _, g0, g1, g2⟩ := trod_struct3 Try.underlying163 hx
 match cs, hl with
 | [v0, v1, v2], _ =>
  obtain ⟨s0, e0, _, z0⟩ := DataW.trod_int (t := 2) Try.underlying2 g0
  obtain ⟨s1, e1, _, z1⟩ := DataW.trod_int (t := 2) Try.underlying2 g1
  obtain ⟨s2, e2, _, z2⟩ := DataW.trod_int (t := 2) Try.underlying2 g2
  have e0 : v0 = .int .i64 s0 := by simpa [cellsI64] using e0
  have e1 : v1 = .int .i64 s1 := by simpa [cellsI64] using e1
  have e2 : v2 = .int .i64 s2 := by simpa [cellsI64] using e2
  rw [e0, e1, e2] at hc
  exact ⟨⟨s0, s1, s2⟩, [], rfl, in64_of_wf z0, in64_of_wf z1, in64_of_wf z2, hc 0 (by simp), hc 1 (by simp), hc 2 (by simp)⟩
set_option maxRecDepth 100000 in
theorem openWlks {fuel : Nat} {cs : List Value} {x : DataW H × List MemPlace} (h : DataW.trod enc Try.prog W base spare held fuel 41 cs = some x) :
  ∃ a c l bs, cs = [.slice a l.length c] ∧ WlkL W a l bs ∧ l.length ≤ maxLen := by
 refine open_sl (by decide) Try.underlying41 cellsWlk ?_ h
 intro b o n cs x hl hc hx
 obtain ⟨y0, y1, y2, m, _, _, g0, g1, g2⟩ := trod_struct3 Try.underlying135 hx
 match cs, hl with
 | [v0, v1, v2], _ =>
  obtain ⟨s0, e0, _, z0⟩ := DataW.trod_int (t := 2) Try.underlying2 g0
  obtain ⟨s1, e1, _, z1⟩ := DataW.trod_int (t := 2) Try.underlying2 g1
  obtain ⟨s2, e2, _, z2⟩ := DataW.trod_int (t := 2) Try.underlying2 g2
  have e0 : v0 = .int .i64 s0 := by simpa [cellsI64] using e0
  have e1 : v1 = .int .i64 s1 := by simpa [cellsI64] using e1
  have e2 : v2 = .int .i64 s2 := by simpa [cellsI64] using e2
  rw [e0, e1, e2] at hc
  exact ⟨⟨s0, s1, s2⟩, [], rfl, in64_of_wf z0, in64_of_wf z1, in64_of_wf z2, hc 0 (by simp), hc 1 (by simp), hc 2 (by simp)⟩
set_option maxRecDepth 100000 in
theorem openTrps {fuel : Nat} {cs : List Value} {x : DataW H × List MemPlace} (h : DataW.trod enc Try.prog W base spare held fuel 40 cs = some x) :
  ∃ a c l bs, cs = [.slice a l.length c] ∧ TrpL W a l bs ∧ l.length ≤ maxLen := by
 refine open_sl (by decide) Try.underlying40 cellsTrp ?_ h
 intro b o n cs x hl hc hx
 obtain ⟨y0, y1, y2, m, _, _, g0, g1, g2⟩ := trod_struct3 Try.underlying132 hx
 match cs, hl with
 | [v0, v1, v2], _ =>
  obtain ⟨s0, e0, _, z0⟩ := DataW.trod_string (t := 9) Try.underlying9 g0
  obtain ⟨s1, e1, _, z1⟩ := DataW.trod_int (t := 2) Try.underlying2 g1
  obtain ⟨ta, tc, tl, tb, e2, t2, l2⟩ := openCals g2
  have f0 : v0 = .string s0 := by simpa [cellsStr] using e0
  have f1 : v1 = .int .i64 s1 := by simpa [cellsI64] using e1
  have f2 : v2 = .slice ta tl.length tc := by simpa [cellsSlCal] using e2
  rw [f0, f1, f2] at hc
  exact ⟨⟨s0, s1, tl⟩, tb, z0, in64_of_wf z1, hc 0 (by simp), hc 1 (by simp), ta, tc, l2, hc 2 (by simp), t2⟩
end
set_option maxRecDepth 100000 in
theorem open_lines {H : Type} {enc : TypeId × Value → H} {W : World} {base : Nat} {v : Value} {d : DataW H} {p : List MemPlace}
  (hv : Value.okWide Try.prog W .any base 43 v) (h : DataW.Trod enc Try.prog W 0 (fun _ => true) true 43 v d p) :
  ∃ g bs, LinV W v g bs ∧ LinN g := by
 obtain ⟨cs, rfl, hcs⟩ := okWide_struct Try.underlying43 hv
 obtain ⟨fuel, hf⟩ := h
 rw [cellsLin] at hcs
 obtain ⟨y0, y1, y2, m, _, _, g0, g1, g2⟩ := trod_struct3 Try.underlying43 hf
 obtain ⟨l⟩ := cs
 match l, hcs with
 | [v0, v1, v2], _ =>
  obtain ⟨na, nc, nl, nb, e0, t0, l0⟩ := openStrs g0
  have q0 : v0 = .slice na nl.length nc := by simpa [cellsSlSr, Value.cells] using e0
  obtain ⟨wa, wc, wl, wb, e1, t1, l1⟩ := openTrps g1
  have q1 : v1 = .slice wa wl.length wc := by simpa [cellsSlTrp, Value.cells] using e1
  obtain ⟨aa, ac, al, ab, e2, t2, l2⟩ := openWlks g2
  have q2 : v2 = .slice aa al.length ac := by simpa [cellsSlWlk, Value.cells] using e2
  subst q0
  subst q1
  subst q2
  exact ⟨⟨nl, wl, al⟩, _, ⟨na, nc, wa, wc, aa, ac, nb, wb, ab, rfl, rfl, t0, t1, t2⟩, l0, l1, l2⟩
end Go.Proofs.Ytkmccjjghpnejaa
