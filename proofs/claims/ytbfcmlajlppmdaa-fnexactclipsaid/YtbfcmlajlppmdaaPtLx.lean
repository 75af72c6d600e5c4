/-
  A row of points as a list: read as two rows of numbers; how one that is handed in is read.
-/
import Derived.Test.YtbfcmlajlppmdaaCB
import Derived.Test.YtbfcmlajlppmdaaCE
namespace Go.Proofs.Ytbfcmlajlppmdaa
open Go.ChangeShapes Go.WideShapes Go.ChangeAt Go.RowKit Go.Deep Go.Joins

theorem cellsRP : Try.prog.cellsOf 24 = 2 := by kernel_rfl
instance : Inhabited PtD := ⟨⟨0, 0⟩⟩

section
variable {H : Type} {enc : TypeId × Value → H} {W : World} {base : Nat} {spare : Nat → Bool} {held : Bool}
set_option maxRecDepth 100000 in
theorem openPtL {fuel : Nat} {cs : List Value} {x : DataW H × List MemPlace} (h : DataW.trod enc Try.prog W base spare held fuel 22 cs = some x) :
  ∃ a c l bs, cs = [.slice a l.length c] ∧ PtL W a l bs ∧ l.length ≤ maxLen := by
 refine open_sl (by decide) Try.underlying22 cellsRP ?_ h
 intro b o n cs x hl hc hx
 obtain ⟨y0, y1, m, _, _, g0, g1⟩ := trod_struct2 Try.underlying24 hx
 match cs, hl with
 | [v0, v1], _ =>
  obtain ⟨s0, e0, _, z0⟩ := DataW.trod_int (t := 2) Try.underlying2 g0
  obtain ⟨s1, e1, _, z1⟩ := DataW.trod_int (t := 2) Try.underlying2 g1
  have e0 : v0 = .int .i64 s0 := by simpa [cellsI64] using e0
  have e1 : v1 = .int .i64 s1 := by simpa [cellsI64] using e1
  rw [e0, e1] at hc
  exact ⟨⟨s0, s1⟩, [], rfl, in64_of_wf z0, in64_of_wf z1, hc 0 (by simp), hc 1 (by simp)⟩
end
def lx (l : List PtD) (i : Nat) : Int := (l.getD i ⟨0, 0⟩).x
def ly (l : List PtD) (i : Nat) : Int := (l.getD i ⟨0, 0⟩).y
theorem lx_at {l : List PtD} {i : Nat} (h : i < l.length) : lx l i = l[i].x := by simp [lx, h]
theorem ly_at {l : List PtD} {i : Nat} (h : i < l.length) : ly l i = l[i].y := by simp [ly, h]
theorem Sl.pts {w : World} {a : Option Addr} {l : List PtD} {bs : List Nat} (h : PtL w a l bs) : Pts w a l.length (lx l) (ly l) := by
 rcases h with ⟨rfl, _⟩ | ⟨b, off, f, h1, h2, _, h4⟩
 ·exact .inl rfl
 ·refine .inr ⟨b, off, h1, h2, fun i hi => ?_⟩
  obtain ⟨_, _, _, c0, c1⟩ := h4 i hi
  rw [lx_at hi, ly_at hi]
  exact ⟨c0, c1⟩
end Go.Proofs.Ytbfcmlajlppmdaa
