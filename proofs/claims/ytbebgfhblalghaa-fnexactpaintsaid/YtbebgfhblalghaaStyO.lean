/-
  How rules that are handed in are read.
-/
import Derived.Test.YtbebgfhblalghaaStyJ
import Derived.Test.YtbebgfhblalghaaOpenD
namespace Go.Proofs.Ytbebgfhblalghaa
open Go.ChangeShapes Go.WideShapes Go.ChangeAt Go.RowKit Go.Deep Go.Joins

instance : Inhabited TestD := ⟨⟨⟨#[]⟩, 0, ⟨#[]⟩⟩⟩
instance : Inhabited RuleD := ⟨⟨0, 0, [], false, ⟨#[]⟩, 0, 0⟩⟩
theorem cellsLTs : Try.prog.cellsOf 238 = 3 := by kernel_rfl
theorem cellsLRl : Try.prog.cellsOf 61 = 7 := by kernel_rfl
theorem cellsSlTs : Try.prog.cellsOf 59 = 1 := by kernel_rfl
theorem cellsBl : Try.prog.cellsOf 4 = 1 := by kernel_rfl
section
variable {H : Type} {enc : TypeId × Value → H} {P : Program} {W : World} {base : Nat} {spare : Nat → Bool} {held : Bool}
theorem trod_struct7 {t : TypeId} {f0 f1 f2 f3 f4 f5 f6 : Field} {fuel : Nat} {cs : List Value} {x : DataW H × List MemPlace} (ht : P.underlying t = some (.struct #[f0, f1, f2, f3, f4, f5, f6])) (h : DataW.trod enc P W base spare held fuel t cs = some x) :
    ∃ y0 y1 y2 y3 y4 y5 y6 n, DataW.trod enc P W base spare held n f0.type ((cs.drop f0.offset).take (P.cellsOf f0.type)) = some y0 ∧
      DataW.trod enc P W base spare held n f1.type ((cs.drop f1.offset).take (P.cellsOf f1.type)) = some y1 ∧ DataW.trod enc P W base spare held n f2.type ((cs.drop f2.offset).take (P.cellsOf f2.type)) = some y2 ∧
      DataW.trod enc P W base spare held n f3.type ((cs.drop f3.offset).take (P.cellsOf f3.type)) = some y3 ∧ DataW.trod enc P W base spare held n f4.type ((cs.drop f4.offset).take (P.cellsOf f4.type)) = some y4 ∧
      DataW.trod enc P W base spare held n f5.type ((cs.drop f5.offset).take (P.cellsOf f5.type)) = some y5 ∧ DataW.trod enc P W base spare held n f6.type ((cs.drop f6.offset).take (P.cellsOf f6.type)) = some y6 := by
  obtain ⟨xs, n, _, _, _, hlen, hf⟩ := DataW.trod_struct ht h
  match xs, hlen with
  | [y0, y1, y2, y3, y4, y5, y6], _ => exact ⟨y0, y1, y2, y3, y4, y5, y6, n, by simpa using hf 0 f0 rfl, by simpa using hf 1 f1 rfl, by simpa using hf 2 f2 rfl, by simpa using hf 3 f3 rfl, by simpa using hf 4 f4 rfl, by simpa using hf 5 f5 rfl, by simpa using hf 6 f6 rfl⟩
end
section
variable {H : Type} {enc : TypeId × Value → H} {W : World} {base : Nat} {spare : Nat → Bool} {held : Bool}
set_option maxRecDepth 100000 in
theorem openTests {fuel : Nat} {cs : List Value} {x : DataW H × List MemPlace} (h : DataW.trod enc Try.prog W base spare held fuel 59 cs = some x) :
    ∃ a c l bs, cs = [.slice a l.length c] ∧ Tests W a l bs ∧ l.length ≤ maxLen := by
  refine open_sl (by decide) Try.underlying59 cellsLTs ?_ h
  intro b o n cs x hl hc hx
  obtain ⟨y0, y1, y2, m, _, _, g0, g1, g2⟩ := trod_struct3 Try.underlying238 hx
  match cs, hl with
  | [v0, v1, v2], _ =>
    obtain ⟨s0, e0, _, z0⟩ := DataW.trod_string (t := 9) Try.underlying9 g0
    obtain ⟨s1, e1, _, z1⟩ := DataW.trod_int (t := 2) Try.underlying2 g1
    obtain ⟨s2, e2, _, z2⟩ := DataW.trod_string (t := 9) Try.underlying9 g2
    have f0 : v0 = .string s0 := by simpa [cellsStr] using e0
    have f1 : v1 = .int .i64 s1 := by simpa [cellsI64] using e1
    have f2 : v2 = .string s2 := by simpa [cellsStr] using e2
    rw [f0, f1, f2] at hc
    exact ⟨⟨s0, s1, s2⟩, [], rfl, z0, in64_of_wf z1, z2, hc 0 (by simp), hc 1 (by simp), hc 2 (by simp)⟩
set_option maxRecDepth 100000 in
theorem openRul {fuel : Nat} {v0 v1 v2 v3 v4 v5 v6 : Value} {x : DataW H × List MemPlace} (h : DataW.trod enc Try.prog W base spare held fuel 61 [v0, v1, v2, v3, v4, v5, v6] = some x) :
    ∃ a c g bs, [v0, v1, v2, v3, v4, v5, v6] = rulL g a g.tests.length c ∧ Tests W a g.tests bs ∧ (g.tests.length ≤ maxLen ∧ g.col.size ≤ maxLen) ∧ In64 g.low ∧ In64 g.high ∧ In64 g.wd ∧ In64 g.lay := by
  obtain ⟨y0, y1, y2, y3, y4, y5, y6, m, g0, g1, g2, g3, g4, g5, g6⟩ := trod_struct7 Try.underlying61 h
  obtain ⟨s0, e0, _, z0⟩ := DataW.trod_int (t := 2) Try.underlying2 g0
  obtain ⟨s1, e1, _, z1⟩ := DataW.trod_int (t := 2) Try.underlying2 g1
  obtain ⟨ta, tc, tl, tb, e2, t2, l2⟩ := openTests g2
  obtain ⟨s3, e3, _⟩ := DataW.trod_bool (t := 4) Try.underlying4 g3
  obtain ⟨s4, e4, _, z4⟩ := DataW.trod_string (t := 9) Try.underlying9 g4
  obtain ⟨s5, e5, _, z5⟩ := DataW.trod_int (t := 2) Try.underlying2 g5
  obtain ⟨s6, e6, _, z6⟩ := DataW.trod_int (t := 2) Try.underlying2 g6
  have f0 : v0 = .int .i64 s0 := by simpa [cellsI64] using e0
  have f1 : v1 = .int .i64 s1 := by simpa [cellsI64] using e1
  have f2 : v2 = .slice ta tl.length tc := by simpa [cellsSlTs] using e2
  have f3 : v3 = .bool s3 := by simpa [cellsBl] using e3
  have f4 : v4 = .string s4 := by simpa [cellsStr] using e4
  have f5 : v5 = .int .i64 s5 := by simpa [cellsI64] using e5
  have f6 : v6 = .int .i64 s6 := by simpa [cellsI64] using e6
  rw [f0, f1, f2, f3, f4, f5, f6]
  exact ⟨ta, tc, ⟨s0, s1, tl, s3, s4, s5, s6⟩, tb, rfl, t2, ⟨l2, z4⟩, in64_of_wf z0, in64_of_wf z1, in64_of_wf z5, in64_of_wf z6⟩
set_option maxRecDepth 100000 in
theorem openRuls {fuel : Nat} {cs : List Value} {x : DataW H × List MemPlace} (h : DataW.trod enc Try.prog W base spare held fuel 75 cs = some x) :
    ∃ a c l bs, cs = [.slice a l.length c] ∧ Rules W a l bs ∧ l.length ≤ maxLen := by
  refine open_sl (by decide) Try.underlying75 cellsLRl ?_ h
  intro b o n cs x hl hc hx
  match cs, hl with
  | [v0, v1, v2, v3, v4, v5, v6], _ =>
    obtain ⟨a, c, g, bs, e, t, ⟨l1, l2⟩, i0, i1, i5, i6⟩ := openRul hx
    rw [e] at hc
    exact ⟨g, bs, i0, i1, l2, i5, i6, hc 0 (by simp [rulL]), hc 1 (by simp [rulL]), hc 3 (by simp [rulL]), hc 4 (by simp [rulL]), hc 5 (by simp [rulL]), hc 6 (by simp [rulL]), a, c, l1, hc 2 (by simp [rulL]), t⟩
end
set_option maxRecDepth 100000 in
theorem open_rule {H : Type} {enc : TypeId × Value → H} {W : World} {base : Nat} {v : Value} {d : DataW H} {p : List MemPlace}
    (hv : Value.okWide Try.prog W .any base 61 v) (h : DataW.Trod enc Try.prog W 0 (fun _ => true) true 61 v d p) :
    ∃ a c g bs, v = rulV g a g.tests.length c ∧ Tests W a g.tests bs ∧ (g.tests.length ≤ maxLen ∧ g.col.size ≤ maxLen) := by
  obtain ⟨cs, rfl, hcs⟩ := okWide_struct Try.underlying61 hv
  obtain ⟨fuel, hf⟩ := h
  rw [cellsLRl] at hcs
  obtain ⟨l⟩ := cs
  match l, hcs with
  | [v0, v1, v2, v3, v4, v5, v6], _ =>
    obtain ⟨a, c, g, bs, e, t, m, _⟩ := openRul hf
    exact ⟨a, c, g, bs, by rw [e]; rfl, t, m⟩
set_option maxRecDepth 100000 in
theorem open_rules {H : Type} {enc : TypeId × Value → H} {W : World} {base : Nat} {v : Value} {d : DataW H} {p : List MemPlace}
    (hv : Value.okWide Try.prog W .any base 75 v) (h : DataW.Trod enc Try.prog W 0 (fun _ => true) true 75 v d p) :
    ∃ a c l bs, v = .slice a l.length c ∧ Rules W a l bs ∧ l.length ≤ maxLen := by
  obtain ⟨a, n, c, rfl⟩ := okWide_slice Try.underlying75 hv
  obtain ⟨fuel, hf⟩ := h
  obtain ⟨a', c', l, bs, hcs, hT, hl⟩ := openRuls hf
  simp [Value.cells] at hcs
  obtain ⟨rfl, rfl, rfl⟩ := hcs
  exact ⟨_, _, _, _, rfl, hT, hl⟩
end Go.Proofs.Ytbebgfhblalghaa
