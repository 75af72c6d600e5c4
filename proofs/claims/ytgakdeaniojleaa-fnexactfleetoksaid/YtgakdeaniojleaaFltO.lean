/-
  How a fleet that is handed in is read: its value, and what its tasks hold.
-/
import Derived.Test.YtgakdeaniojleaaFltD
import Derived.Test.YtgakdeaniojleaaLblO
import Derived.Test.YtgakdeaniojleaaGphO
namespace Go.Proofs.Ytgakdeaniojleaa
open Go.ChangeShapes Go.WideShapes Go.ChangeAt Go.RowKit Go.Deep Go.Joins

/-- A fleet's value. -/
abbrev fltV (f : FleetD) (a : Option Addr) (n c : Nat) : Value := .agg #[.int .i64 f.depot, .int .i64 f.start, .int .i64 f.veh, .int .i64 f.room, .slice a n c]
/-- The value reads as this fleet, whose tasks lie in these blocks. -/
def FltV (w : World) (v : Value) (f : FleetD) (bs : List Nat) : Prop := ∃ a c, v = fltV f a f.tasks.length c ∧ TaskL w a f.tasks bs
theorem FltV.bel {w w' : World} {v : Value} {f : FleetD} {bs : List Nat} (h : FltV w v f bs) (hb : Bel w w') : FltV w' v f bs := by
  obtain ⟨a, c, e, h0⟩ := h
  exact ⟨a, c, e, h0.bel taskE hb⟩
instance : Inhabited TaskD := ⟨⟨0, 0, 0, 0, 0⟩⟩
theorem cellsTask : Try.prog.cellsOf 87 = 5 := by kernel_rfl
theorem cellsFleet : Try.prog.cellsOf 29 = 5 := by kernel_rfl
theorem cellsSlT : Try.prog.cellsOf 27 = 1 := by kernel_rfl
section
variable {H : Type} {enc : TypeId × Value → H} {W : World} {base : Nat} {spare : Nat → Bool} {held : Bool}
set_option maxRecDepth 100000 in
theorem openTasks {fuel : Nat} {cs : List Value} {x : DataW H × List MemPlace} (h : DataW.trod enc Try.prog W base spare held fuel 27 cs = some x) :
    ∃ a c l bs, cs = [.slice a l.length c] ∧ TaskL W a l bs ∧ l.length ≤ maxLen := by
  refine open_sl (by decide) Try.underlying27 cellsTask ?_ h
  intro b o n cs x hl hc hx
  obtain ⟨y0, y1, y2, y3, y4, m, g0, g1, g2, g3, g4⟩ := trod_struct5 Try.underlying87 hx
  match cs, hl with
  | [v0, v1, v2, v3, v4], _ =>
    obtain ⟨s0, e0, _, z0⟩ := DataW.trod_int (t := 2) Try.underlying2 g0
    obtain ⟨s1, e1, _, z1⟩ := DataW.trod_int (t := 2) Try.underlying2 g1
    obtain ⟨s2, e2, _, z2⟩ := DataW.trod_int (t := 2) Try.underlying2 g2
    obtain ⟨s3, e3, _, z3⟩ := DataW.trod_int (t := 2) Try.underlying2 g3
    obtain ⟨s4, e4, _, z4⟩ := DataW.trod_int (t := 2) Try.underlying2 g4
    have e0 : v0 = .int .i64 s0 := by simpa [cellsI64] using e0
    have e1 : v1 = .int .i64 s1 := by simpa [cellsI64] using e1
    have e2 : v2 = .int .i64 s2 := by simpa [cellsI64] using e2
    have e3 : v3 = .int .i64 s3 := by simpa [cellsI64] using e3
    have e4 : v4 = .int .i64 s4 := by simpa [cellsI64] using e4
    rw [e0, e1, e2, e3, e4] at hc
    exact ⟨⟨s0, s1, s2, s3, s4⟩, [], rfl, in64_of_wf z0, in64_of_wf z1, in64_of_wf z2, in64_of_wf z3, in64_of_wf z4, hc 0 (by simp), hc 1 (by simp), hc 2 (by simp), hc 3 (by simp), hc 4 (by simp)⟩
end
set_option maxRecDepth 100000 in
theorem open_fleet {H : Type} {enc : TypeId × Value → H} {W : World} {base : Nat} {v : Value} {d : DataW H} {p : List MemPlace}
    (hv : Value.okWide Try.prog W .any base 29 v) (h : DataW.Trod enc Try.prog W 0 (fun _ => true) true 29 v d p) :
    ∃ f bs, FltV W v f bs ∧ f.tasks.length ≤ maxLen := by
  obtain ⟨cs, rfl, hcs⟩ := okWide_struct Try.underlying29 hv
  obtain ⟨fuel, hf⟩ := h
  rw [cellsFleet] at hcs
  obtain ⟨l⟩ := cs
  match l, hcs with
  | [v0, v1, v2, v3, v4], _ =>
    obtain ⟨y0, y1, y2, y3, y4, m, g0, g1, g2, g3, g4⟩ := trod_struct5 Try.underlying29 hf
    obtain ⟨s0, e0, _, z0⟩ := DataW.trod_int (t := 2) Try.underlying2 g0
    obtain ⟨s1, e1, _, z1⟩ := DataW.trod_int (t := 2) Try.underlying2 g1
    obtain ⟨s2, e2, _, z2⟩ := DataW.trod_int (t := 2) Try.underlying2 g2
    obtain ⟨s3, e3, _, z3⟩ := DataW.trod_int (t := 2) Try.underlying2 g3
    obtain ⟨a', c', l, bs, hcs, hT, hl⟩ := openTasks g4
    have e0 : v0 = .int .i64 s0 := by simpa [cellsI64, Value.cells] using e0
    have e1 : v1 = .int .i64 s1 := by simpa [cellsI64, Value.cells] using e1
    have e2 : v2 = .int .i64 s2 := by simpa [cellsI64, Value.cells] using e2
    have e3 : v3 = .int .i64 s3 := by simpa [cellsI64, Value.cells] using e3
    have e4 : v4 = .slice a' l.length c' := by simpa [cellsSlT, Value.cells] using hcs
    rw [e0, e1, e2, e3, e4]
    exact ⟨⟨s0, s1, s2, s3, l⟩, bs, ⟨a', c', rfl, hT⟩, hl⟩
end Go.Proofs.Ytgakdeaniojleaa
