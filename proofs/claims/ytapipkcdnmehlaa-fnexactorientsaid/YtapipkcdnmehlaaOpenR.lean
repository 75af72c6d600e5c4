/-
  How rings that are handed in are read: the slice's value, and what its rows hold.
-/
import Derived.Test.YtapipkcdnmehlaaOpenD
import Derived.Test.YtapipkcdnmehlaaRngD
namespace Go.Proofs.Ytapipkcdnmehlaa
open Go.ChangeShapes Go.WideShapes Go.ChangeAt Go.RowKit Go.Deep Go.Joins

theorem cellsRg : Try.prog.cellsOf 51 = 2 := by kernel_rfl
theorem cellsRP : Try.prog.cellsOf 31 = 2 := by kernel_rfl
theorem cellsRB : Try.prog.cellsOf 4 = 1 := by kernel_rfl
theorem cellsRS : Try.prog.cellsOf 22 = 1 := by kernel_rfl

section
variable {H : Type} {enc : TypeId × Value → H} {W : World} {base : Nat} {spare : Nat → Bool} {held : Bool}
set_option maxRecDepth 100000 in
theorem openPtL {fuel : Nat} {cs : List Value} {x : DataW H × List MemPlace} (h : DataW.trod enc Try.prog W base spare held fuel 22 cs = some x) :
    ∃ a c l bs, cs = [.slice a l.length c] ∧ PtL W a l bs ∧ l.length ≤ maxLen := by
  refine open_sl (by decide) Try.underlying22 cellsRP ?_ h
  intro b o n cs x hl hc hx
  obtain ⟨y0, y1, m, _, _, g0, g1⟩ := trod_struct2 Try.underlying31 hx
  match cs, hl with
  | [v0, v1], _ =>
    obtain ⟨s0, e0, _, z0⟩ := DataW.trod_int (t := 2) Try.underlying2 g0
    obtain ⟨s1, e1, _, z1⟩ := DataW.trod_int (t := 2) Try.underlying2 g1
    have e0 : v0 = .int .i64 s0 := by simpa [cellsI64] using e0
    have e1 : v1 = .int .i64 s1 := by simpa [cellsI64] using e1
    rw [e0, e1] at hc
    exact ⟨⟨s0, s1⟩, [], rfl, in64_of_wf z0, in64_of_wf z1, hc 0 (by simp), hc 1 (by simp)⟩

set_option maxRecDepth 100000 in
theorem openRings {fuel : Nat} {cs : List Value} {x : DataW H × List MemPlace} (h : DataW.trod enc Try.prog W base spare held fuel 29 cs = some x) :
    ∃ a c l bs, cs = [.slice a l.length c] ∧ RingL W a l bs ∧ l.length ≤ maxLen := by
  refine open_sl (by decide) Try.underlying29 cellsRg ?_ h
  intro b o n cs x hl hc hx
  obtain ⟨y0, y1, m, _, _, g0, g1⟩ := trod_struct2 Try.underlying51 hx
  match cs, hl with
  | [v0, v1], _ =>
    obtain ⟨ta, tc, tl, tb, e0, t0, l0⟩ := openPtL g0
    have e0 : v0 = .slice ta tl.length tc := by simpa [cellsRS] using e0
    obtain ⟨s1, e1, _⟩ := DataW.trod_bool (t := 4) Try.underlying4 g1
    have e1 : v1 = .bool s1 := by simpa [cellsRB, cellsRS] using e1
    rw [e0, e1] at hc
    exact ⟨⟨tl, s1⟩, tb, ta, tc, l0, hc 0 (by simp), hc 1 (by simp), t0⟩
end

set_option maxRecDepth 100000 in
theorem open_rings {H : Type} {enc : TypeId × Value → H} {W : World} {base : Nat} {v : Value} {d : DataW H} {p : List MemPlace}
    (hv : Value.okWide Try.prog W .any base 29 v) (h : DataW.Trod enc Try.prog W 0 (fun _ => true) true 29 v d p) :
    ∃ a c l bs, v = .slice a l.length c ∧ RingL W a l bs ∧ l.length ≤ maxLen := by
  obtain ⟨a, n, c, rfl⟩ := okWide_slice Try.underlying29 hv
  obtain ⟨fuel, hf⟩ := h
  obtain ⟨a', c', l, bs, hcs, hT, hl⟩ := openRings hf
  simp [Value.cells] at hcs
  obtain ⟨rfl, rfl, rfl⟩ := hcs
  exact ⟨_, _, _, _, rfl, hT, hl⟩

/-- What fits into the measure has short rows. -/
theorem rings_fit {l : List RingD} (h : 0 ≤ szR 1048576 (ringsSz l)) : l.length ≤ 1048576 ∧ ∀ i (h : i < l.length), l[i].row.length ≤ 1048576 := by
  have h1 : (ringsSz l : Int) ≤ 1048576 := by
    by_cases h1 : (ringsSz l : Int) ≤ 1048576
    · exact h1
    · rw [szR_neg h1] at h; omega
  unfold ringsSz at h1
  refine ⟨by omega, fun i hi => ?_⟩
  have h2 := sumTo_succ ringSz (l := l) (k := i) hi
  have h3 := sumTo_le ringSz (l := l) (k := i + 1) (n := l.length) (by omega) rfl
  have h4 : ringSz l[i] = l[i].row.length := rfl
  omega
end Go.Proofs.Ytapipkcdnmehlaa
