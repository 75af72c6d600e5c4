/-
  How a graph that is handed in is read: its value, and what its lists hold.
-/
import Derived.Test.YtgakdeaniojleaaOpenD
import Derived.Test.YtgakdeaniojleaaGphM
namespace Go.Proofs.Ytgakdeaniojleaa
open Go.ChangeShapes Go.WideShapes Go.ChangeAt Go.RowKit Go.Deep Go.Joins

/-- The value reads as this graph and lies in these blocks. -/
def GphV (w : World) (v : Value) (g : GraphD) (bs : List Nat) : Prop :=
  ∃ a0 c0 a1 c1 a2 c2 b0 b1 b2, bs = b0 ++ (b1 ++ b2) ∧ v = .agg #[.slice a0 g.places.length c0, .slice a1 g.roads.length c1, .slice a2 g.bans.length c2] ∧ SpotL w a0 g.places b0 ∧ RoadL w a1 g.roads b1 ∧ BanL w a2 g.bans b2
theorem GphV.bel {w w' : World} {v : Value} {g : GraphD} {bs : List Nat} (h : GphV w v g bs) (hb : Bel w w') : GphV w' v g bs := by
  obtain ⟨a0, c0, a1, c1, a2, c2, b0, b1, b2, e1, e2, h0, h1, h2⟩ := h
  exact ⟨a0, c0, a1, c1, a2, c2, b0, b1, b2, e1, e2, h0.bel spotE hb, h1.bel roadE hb, h2.bel banE hb⟩
theorem GphV.lt {w : World} {v : Value} {g : GraphD} {bs : List Nat} (h : GphV w v g bs) : ∀ x ∈ bs, x < w.heap.size := by
  obtain ⟨a0, c0, a1, c1, a2, c2, b0, b1, b2, e1, _, h0, h1, h2⟩ := h
  subst e1
  intro x hx
  rcases List.mem_append.1 hx with hx | hx
  · exact h0.lt spotE x hx
  · rcases List.mem_append.1 hx with hx | hx
    · exact h1.lt roadE x hx
    · exact h2.lt banE x hx
theorem GphV.alike {w w' : World} {v : Value} {g : GraphD} {bs : List Nat} (h : GphV w v g bs) (hA : Alike w w' bs) : GphV w' v g bs := by
  obtain ⟨a0, c0, a1, c1, a2, c2, b0, b1, b2, e1, e2, h0, h1, h2⟩ := h
  subst e1
  exact ⟨a0, c0, a1, c1, a2, c2, b0, b1, b2, rfl, e2, h0.alike spotE (hA.sub fun _ hx => by simp [hx]), h1.alike roadE (hA.sub fun _ hx => by simp [hx]), h2.alike banE (hA.sub fun _ hx => by simp [hx])⟩
/-- The lists of a graph have lengths within int. -/
def GphN (g : GraphD) : Prop := g.places.length ≤ maxLen ∧ g.roads.length ≤ maxLen ∧ g.bans.length ≤ maxLen
/-- .. and within what the laws let by. -/
def GphQ (g : GraphD) : Prop := g.places.length ≤ 1048576 ∧ g.roads.length ≤ 1048576 ∧ g.bans.length ≤ 1048576

section
variable {H : Type} {enc : TypeId × Value → H} {P : Program} {W : World} {base : Nat} {spare : Nat → Bool} {held : Bool}
theorem trod_struct6 {t : TypeId} {f0 f1 f2 f3 f4 f5 : Field} {fuel : Nat} {cs : List Value} {x : DataW H × List MemPlace} (ht : P.underlying t = some (.struct #[f0, f1, f2, f3, f4, f5])) (h : DataW.trod enc P W base spare held fuel t cs = some x) :
    ∃ y0 y1 y2 y3 y4 y5 n, DataW.trod enc P W base spare held n f0.type ((cs.drop f0.offset).take (P.cellsOf f0.type)) = some y0 ∧
      DataW.trod enc P W base spare held n f1.type ((cs.drop f1.offset).take (P.cellsOf f1.type)) = some y1 ∧ DataW.trod enc P W base spare held n f2.type ((cs.drop f2.offset).take (P.cellsOf f2.type)) = some y2 ∧
      DataW.trod enc P W base spare held n f3.type ((cs.drop f3.offset).take (P.cellsOf f3.type)) = some y3 ∧ DataW.trod enc P W base spare held n f4.type ((cs.drop f4.offset).take (P.cellsOf f4.type)) = some y4 ∧
      DataW.trod enc P W base spare held n f5.type ((cs.drop f5.offset).take (P.cellsOf f5.type)) = some y5 := by
  obtain ⟨xs, n, _, _, _, hlen, hf⟩ := DataW.trod_struct ht h
  match xs, hlen with
  | [y0, y1, y2, y3, y4, y5], _ => exact ⟨y0, y1, y2, y3, y4, y5, n, by simpa using hf 0 f0 rfl, by simpa using hf 1 f1 rfl, by simpa using hf 2 f2 rfl, by simpa using hf 3 f3 rfl, by simpa using hf 4 f4 rfl, by simpa using hf 5 f5 rfl⟩
end
section
variable {H : Type} {enc : TypeId × Value → H} {W : World} {base : Nat} {spare : Nat → Bool} {held : Bool}
theorem cellsLPg : Try.prog.cellsOf 80 = 2 := by kernel_rfl

theorem cellsSpot : Try.prog.cellsOf 82 = 3 := by kernel_rfl
theorem cellsRoad : Try.prog.cellsOf 72 = 6 := by kernel_rfl
theorem cellsBan : Try.prog.cellsOf 85 = 2 := by kernel_rfl
theorem cellsGraph : Try.prog.cellsOf 26 = 3 := by kernel_rfl
theorem cellsSlS : Try.prog.cellsOf 22 = 1 := by kernel_rfl
theorem cellsSlR : Try.prog.cellsOf 23 = 1 := by kernel_rfl
theorem cellsSlB : Try.prog.cellsOf 24 = 1 := by kernel_rfl
set_option maxRecDepth 100000 in
theorem openSpots {fuel : Nat} {cs : List Value} {x : DataW H × List MemPlace} (h : DataW.trod enc Try.prog W base spare held fuel 22 cs = some x) :
    ∃ a c l bs, cs = [.slice a l.length c] ∧ SpotL W a l bs ∧ l.length ≤ maxLen := by
  refine open_sl (by decide) Try.underlying22 cellsSpot ?_ h
  intro b o n cs x hl hc hx
  obtain ⟨y0, y1, m, _, _, g0, g1⟩ := trod_struct2 Try.underlying82 hx
  match cs, hl with
  | [v0, v1, v2], _ =>
    obtain ⟨p0, p1, m', _, _, k0, k1⟩ := trod_struct2 (t := 80) Try.underlying80 g1
    obtain ⟨s0, e0, _, z0⟩ := DataW.trod_int (t := 2) Try.underlying2 g0
    obtain ⟨s1, e1, _, z1⟩ := DataW.trod_int (t := 2) Try.underlying2 k0
    obtain ⟨s2, e2, _, z2⟩ := DataW.trod_int (t := 2) Try.underlying2 k1
    have e0 : v0 = .int .i64 s0 := by simpa [cellsI64, cellsLPg] using e0
    have e1 : v1 = .int .i64 s1 := by simpa [cellsI64, cellsLPg] using e1
    have e2 : v2 = .int .i64 s2 := by simpa [cellsI64, cellsLPg] using e2
    rw [e0, e1, e2] at hc
    exact ⟨⟨s0, s1, s2⟩, [], rfl, in64_of_wf z0, in64_of_wf z1, in64_of_wf z2, hc 0 (by simp), hc 1 (by simp), hc 2 (by simp)⟩
set_option maxRecDepth 100000 in
theorem openRoads {fuel : Nat} {cs : List Value} {x : DataW H × List MemPlace} (h : DataW.trod enc Try.prog W base spare held fuel 23 cs = some x) :
    ∃ a c l bs, cs = [.slice a l.length c] ∧ RoadL W a l bs ∧ l.length ≤ maxLen := by
  refine open_sl (by decide) Try.underlying23 cellsRoad ?_ h
  intro b o n cs x hl hc hx
  obtain ⟨y0, y1, y2, y3, y4, y5, m, g0, g1, g2, g3, g4, g5⟩ := trod_struct6 Try.underlying72 hx
  match cs, hl with
  | [v0, v1, v2, v3, v4, v5], _ =>
    obtain ⟨s0, e0, _, z0⟩ := DataW.trod_int (t := 2) Try.underlying2 g0
    obtain ⟨s1, e1, _, z1⟩ := DataW.trod_int (t := 2) Try.underlying2 g1
    obtain ⟨s2, e2, _, z2⟩ := DataW.trod_int (t := 2) Try.underlying2 g2
    obtain ⟨s3, e3, _, z3⟩ := DataW.trod_int (t := 2) Try.underlying2 g3
    obtain ⟨s4, e4, _, z4⟩ := DataW.trod_int (t := 2) Try.underlying2 g4
    obtain ⟨s5, e5, _, z5⟩ := DataW.trod_string (t := 9) Try.underlying9 g5
    have e0 : v0 = .int .i64 s0 := by simpa [cellsI64] using e0
    have e1 : v1 = .int .i64 s1 := by simpa [cellsI64] using e1
    have e2 : v2 = .int .i64 s2 := by simpa [cellsI64] using e2
    have e3 : v3 = .int .i64 s3 := by simpa [cellsI64] using e3
    have e4 : v4 = .int .i64 s4 := by simpa [cellsI64] using e4
    have e5 : v5 = .string s5 := by simpa [cellsStr] using e5
    rw [e0, e1, e2, e3, e4, e5] at hc
    exact ⟨⟨s0, s1, s2, s3, s4, s5⟩, [], rfl, in64_of_wf z0, in64_of_wf z1, in64_of_wf z2, in64_of_wf z3, in64_of_wf z4, z5, hc 0 (by simp), hc 1 (by simp), hc 2 (by simp), hc 3 (by simp), hc 4 (by simp), hc 5 (by simp)⟩
set_option maxRecDepth 100000 in
theorem openBans {fuel : Nat} {cs : List Value} {x : DataW H × List MemPlace} (h : DataW.trod enc Try.prog W base spare held fuel 24 cs = some x) :
    ∃ a c l bs, cs = [.slice a l.length c] ∧ BanL W a l bs ∧ l.length ≤ maxLen := by
  refine open_sl (by decide) Try.underlying24 cellsBan ?_ h
  intro b o n cs x hl hc hx
  obtain ⟨y0, y1, m, _, _, g0, g1⟩ := trod_struct2 Try.underlying85 hx
  match cs, hl with
  | [v0, v1], _ =>
    obtain ⟨s0, e0, _, z0⟩ := DataW.trod_int (t := 2) Try.underlying2 g0
    obtain ⟨s1, e1, _, z1⟩ := DataW.trod_int (t := 2) Try.underlying2 g1
    have e0 : v0 = .int .i64 s0 := by simpa [cellsI64] using e0
    have e1 : v1 = .int .i64 s1 := by simpa [cellsI64] using e1
    rw [e0, e1] at hc
    exact ⟨⟨s0, s1⟩, [], rfl, in64_of_wf z0, in64_of_wf z1, hc 0 (by simp), hc 1 (by simp)⟩
end
set_option maxRecDepth 100000 in
theorem open_graph {H : Type} {enc : TypeId × Value → H} {W : World} {base : Nat} {v : Value} {d : DataW H} {p : List MemPlace}
    (hv : Value.okWide Try.prog W .any base 26 v) (h : DataW.Trod enc Try.prog W 0 (fun _ => true) true 26 v d p) :
    ∃ g bs, GphV W v g bs ∧ GphN g := by
  obtain ⟨cs, rfl, hcs⟩ := okWide_struct Try.underlying26 hv
  obtain ⟨fuel, hf⟩ := h
  rw [cellsGraph] at hcs
  obtain ⟨y0, y1, y2, m, _, _, g0, g1, g2⟩ := trod_struct3 Try.underlying26 hf
  obtain ⟨l⟩ := cs
  match l, hcs with
  | [v0, v1, v2], _ =>
    obtain ⟨na, nc, nl, nb, e0, t0, l0⟩ := openSpots g0
    have q0 : v0 = .slice na nl.length nc := by simpa [cellsSlS, Value.cells] using e0
    obtain ⟨wa, wc, wl, wb, e1, t1, l1⟩ := openRoads g1
    have q1 : v1 = .slice wa wl.length wc := by simpa [cellsSlR, Value.cells] using e1
    obtain ⟨aa, ac, al, ab, e2, t2, l2⟩ := openBans g2
    have q2 : v2 = .slice aa al.length ac := by simpa [cellsSlB, Value.cells] using e2
    subst q0
    subst q1
    subst q2
    exact ⟨⟨nl, wl, al⟩, _, ⟨na, nc, wa, wc, aa, ac, nb, wb, ab, rfl, rfl, t0, t1, t2⟩, l0, l1, l2⟩
end Go.Proofs.Ytgakdeaniojleaa
