/-
  How labels that are handed in are read, one and a row of them.
  How rows of rows of labels and of numbers that are handed in are read.
-/
import Derived.Test.YtpbpnkklnbmkeaaLblD
import Derived.Test.YtpbpnkklnbmkeaaOpenD
import Derived.Test.YtpbpnkklnbmkeaaXH
namespace Go.Proofs.Ytpbpnkklnbmkeaa
open Go.ChangeShapes Go.WideShapes Go.ChangeAt Go.RowKit Go.Deep Go.Joins

instance : Inhabited LblD := ⟨⟨0, 0, 0, 0, 0, 0⟩⟩
theorem cellsLLb : Try.prog.cellsOf 109 = 6 := by kernel_rfl
theorem cellsLPl : Try.prog.cellsOf 107 = 2 := by kernel_rfl
section
variable {H : Type} {enc : TypeId × Value → H} {P : Program} {W : World} {base : Nat} {spare : Nat → Bool} {held : Bool}
theorem trod_struct5 {t : TypeId} {f0 f1 f2 f3 f4 : Field} {fuel : Nat} {cs : List Value} {x : DataW H × List MemPlace} (ht : P.underlying t = some (.struct #[f0, f1, f2, f3, f4])) (h : DataW.trod enc P W base spare held fuel t cs = some x) :
    ∃ y0 y1 y2 y3 y4 n, DataW.trod enc P W base spare held n f0.type ((cs.drop f0.offset).take (P.cellsOf f0.type)) = some y0 ∧
      DataW.trod enc P W base spare held n f1.type ((cs.drop f1.offset).take (P.cellsOf f1.type)) = some y1 ∧ DataW.trod enc P W base spare held n f2.type ((cs.drop f2.offset).take (P.cellsOf f2.type)) = some y2 ∧
      DataW.trod enc P W base spare held n f3.type ((cs.drop f3.offset).take (P.cellsOf f3.type)) = some y3 ∧ DataW.trod enc P W base spare held n f4.type ((cs.drop f4.offset).take (P.cellsOf f4.type)) = some y4 := by
  obtain ⟨xs, n, _, _, _, hlen, hf⟩ := DataW.trod_struct ht h
  match xs, hlen with
  | [y0, y1, y2, y3, y4], _ => exact ⟨y0, y1, y2, y3, y4, n, by simpa using hf 0 f0 rfl, by simpa using hf 1 f1 rfl, by simpa using hf 2 f2 rfl, by simpa using hf 3 f3 rfl, by simpa using hf 4 f4 rfl⟩
end
section
variable {H : Type} {enc : TypeId × Value → H} {W : World} {base : Nat} {spare : Nat → Bool} {held : Bool}
set_option maxRecDepth 100000 in
theorem openLb {fuel : Nat} {v0 v1 v2 v3 v4 v5 : Value} {x : DataW H × List MemPlace} (h : DataW.trod enc Try.prog W base spare held fuel 109 [v0, v1, v2, v3, v4, v5] = some x) :
    ∃ d : LblD, LblP d ∧ [v0, v1, v2, v3, v4, v5] = lblCs d := by
  obtain ⟨y0, y1, y2, y3, y4, m, g0, g1, g2, g3, g4⟩ := trod_struct5 Try.underlying109 h
  obtain ⟨p0, p1, m', _, _, k0, k1⟩ := trod_struct2 (t := 107) Try.underlying107 g1
  obtain ⟨s0, e0, _, z0⟩ := DataW.trod_int (t := 2) Try.underlying2 g0
  obtain ⟨s1, e1, _, z1⟩ := DataW.trod_int (t := 2) Try.underlying2 k0
  obtain ⟨s2, e2, _, z2⟩ := DataW.trod_int (t := 2) Try.underlying2 k1
  obtain ⟨s3, e3, _, z3⟩ := DataW.trod_int (t := 2) Try.underlying2 g2
  obtain ⟨s4, e4, _, z4⟩ := DataW.trod_int (t := 2) Try.underlying2 g3
  obtain ⟨s5, e5, _, z5⟩ := DataW.trod_int (t := 2) Try.underlying2 g4
  have f0 : v0 = .int .i64 s0 := by simpa [cellsI64, cellsLPl] using e0
  have f1 : v1 = .int .i64 s1 := by simpa [cellsI64, cellsLPl] using e1
  have f2 : v2 = .int .i64 s2 := by simpa [cellsI64, cellsLPl] using e2
  have f3 : v3 = .int .i64 s3 := by simpa [cellsI64, cellsLPl] using e3
  have f4 : v4 = .int .i64 s4 := by simpa [cellsI64, cellsLPl] using e4
  have f5 : v5 = .int .i64 s5 := by simpa [cellsI64, cellsLPl] using e5
  rw [f0, f1, f2, f3, f4, f5]
  exact ⟨⟨s0, s1, s2, s3, s4, s5⟩, ⟨in64_of_wf z0, in64_of_wf z1, in64_of_wf z2, in64_of_wf z3, in64_of_wf z4, in64_of_wf z5⟩, rfl⟩
set_option maxRecDepth 100000 in
theorem openLbs {fuel : Nat} {cs : List Value} {x : DataW H × List MemPlace} (h : DataW.trod enc Try.prog W base spare held fuel 77 cs = some x) :
    ∃ a c l bs, cs = [.slice a l.length c] ∧ LblL W a l bs ∧ l.length ≤ maxLen := by
  refine open_sl (by decide) Try.underlying77 cellsLLb ?_ h
  intro b o n cs x hl hc hx
  match cs, hl with
  | [v0, v1, v2, v3, v4, v5], _ =>
    obtain ⟨d, hp, e⟩ := openLb hx
    rw [e] at hc
    exact ⟨d, [], lblF.lay hp hc⟩
end
set_option maxRecDepth 100000 in
theorem open_lbl {H : Type} {enc : TypeId × Value → H} {W : World} {base : Nat} {v : Value} {d : DataW H} {p : List MemPlace}
    (hv : Value.okWide Try.prog W .any base 109 v) (h : DataW.Trod enc Try.prog W 0 (fun _ => true) true 109 v d p) :
    ∃ d : LblD, v = lbv d ∧ LblP d := by
  obtain ⟨cs, rfl, hcs⟩ := okWide_struct Try.underlying109 hv
  obtain ⟨fuel, hf⟩ := h
  rw [cellsLLb] at hcs
  obtain ⟨l⟩ := cs
  match l, hcs with
  | [v0, v1, v2, v3, v4, v5], _ =>
    obtain ⟨d, hp, e⟩ := openLb hf
    exact ⟨d, by rw [e]; rfl, hp⟩
set_option maxRecDepth 100000 in
theorem open_lbs {H : Type} {enc : TypeId × Value → H} {W : World} {base : Nat} {v : Value} {d : DataW H} {p : List MemPlace}
    (hv : Value.okWide Try.prog W .any base 77 v) (h : DataW.Trod enc Try.prog W 0 (fun _ => true) true 77 v d p) :
    ∃ a c l bs, v = .slice a l.length c ∧ LblL W a l bs ∧ l.length ≤ maxLen := by
  obtain ⟨a, n, c, rfl⟩ := okWide_slice Try.underlying77 hv
  obtain ⟨fuel, hf⟩ := h
  obtain ⟨a', c', l, bs, hcs, hT, hl⟩ := openLbs hf
  simp [Value.cells] at hcs
  obtain ⟨rfl, rfl, rfl⟩ := hcs
  exact ⟨_, _, _, _, rfl, hT, hl⟩
section
variable {H : Type} {enc : TypeId × Value → H} {W : World} {base : Nat} {spare : Nat → Bool} {held : Bool}
set_option maxRecDepth 100000 in
theorem openIs {fuel : Nat} {cs : List Value} {x : DataW H × List MemPlace} (h : DataW.trod enc Try.prog W base spare held fuel 25 cs = some x) :
    ∃ a c l bs, cs = [.slice a l.length c] ∧ Ints W a l bs ∧ l.length ≤ maxLen := by
  refine open_sl (by decide) Try.underlying25 cellsI64 ?_ h
  intro b o n cs x hl hc hx
  match cs, hl with
  | [v0], _ =>
    obtain ⟨s0, e0, _, z0⟩ := DataW.trod_int (t := 2) Try.underlying2 hx
    have e0 : v0 = .int .i64 s0 := by simpa using e0
    rw [e0] at hc
    exact ⟨s0, [], rfl, in64_of_wf z0, hc 0 (by simp)⟩
end
set_option maxRecDepth 100000 in
theorem open_ints {H : Type} {enc : TypeId × Value → H} {W : World} {base : Nat} {v : Value} {d : DataW H} {p : List MemPlace}
    (hv : Value.okWide Try.prog W .any base 25 v) (h : DataW.Trod enc Try.prog W 0 (fun _ => true) true 25 v d p) :
    ∃ a c l bs, v = .slice a l.length c ∧ Ints W a l bs ∧ l.length ≤ maxLen := by
  obtain ⟨a, n, c, rfl⟩ := okWide_slice Try.underlying25 hv
  obtain ⟨fuel, hf⟩ := h
  obtain ⟨a', c', l, bs, hcs, hT, hl⟩ := openIs hf
  simp [Value.cells] at hcs
  obtain ⟨rfl, rfl, rfl⟩ := hcs
  exact ⟨_, _, _, _, rfl, hT, hl⟩
end Go.Proofs.Ytpbpnkklnbmkeaa

namespace Go.Proofs.Ytpbpnkklnbmkeaa
open Go.ChangeShapes Go.WideShapes Go.ChangeAt Go.RowKit Go.Deep Go.Joins

theorem cellsLbs : Try.prog.cellsOf 77 = 1 := by kernel_rfl
section
variable {H : Type} {enc : TypeId × Value → H} {W : World} {base : Nat} {spare : Nat → Bool} {held : Bool}
set_option maxRecDepth 100000 in
theorem openLbss {fuel : Nat} {cs : List Value} {x : DataW H × List MemPlace} (h : DataW.trod enc Try.prog W base spare held fuel 43 cs = some x) :
    ∃ a c l bs, cs = [.slice a l.length c] ∧ LsL W a l bs ∧ l.length ≤ maxLen := by
  refine open_sl (by decide) Try.underlying43 cellsLbs ?_ h
  intro b o n cs x hl hc hx
  match cs, hl with
  | [v0], _ =>
    obtain ⟨a, c, l, bs, e, hT, hm⟩ := openLbs hx
    have e0 : v0 = .slice a l.length c := by simpa using e
    rw [e0] at hc
    exact ⟨l, bs, a, c, hm, hc 0 (by simp), hT⟩
end
set_option maxRecDepth 100000 in
theorem open_lbss {H : Type} {enc : TypeId × Value → H} {W : World} {base : Nat} {v : Value} {d : DataW H} {p : List MemPlace}
    (hv : Value.okWide Try.prog W .any base 43 v) (h : DataW.Trod enc Try.prog W 0 (fun _ => true) true 43 v d p) :
    ∃ a c l bs, v = .slice a l.length c ∧ LsL W a l bs ∧ l.length ≤ maxLen := by
  obtain ⟨a, n, c, rfl⟩ := okWide_slice Try.underlying43 hv
  obtain ⟨fuel, hf⟩ := h
  obtain ⟨a', c', l, bs, hcs, hT, hl⟩ := openLbss hf
  simp [Value.cells] at hcs
  obtain ⟨rfl, rfl, rfl⟩ := hcs
  exact ⟨_, _, _, _, rfl, hT, hl⟩
end Go.Proofs.Ytpbpnkklnbmkeaa
