/-
  How a timetable that is handed in is read: its value, and what its lists hold.
-/
import Derived.Test.YtonedkibbdbgjaaLinD
import Derived.Test.YtonedkibbdbgjaaOpenD
namespace Go.Proofs.Ytonedkibbdbgjaa
open Go.ChangeShapes Go.WideShapes Go.ChangeAt Go.RowKit Go.Deep Go.Joins

/-- The value reads as this timetable and lies in these blocks. -/
def LinV (w : World) (v : Value) (g : LinesD) (bs : List Nat) : Prop :=
  ∃ a0 c0 a1 c1 a2 c2 b0 b1 b2, bs = b0 ++ (b1 ++ b2) ∧ v = .agg #[.slice a0 g.stops.length c0, .slice a1 g.trips.length c1, .slice a2 g.walks.length c2] ∧ StrL w a0 g.stops b0 ∧ TrpL w a1 g.trips b1 ∧ WlkL w a2 g.walks b2
theorem LinV.bel {w w' : World} {v : Value} {g : LinesD} {bs : List Nat} (h : LinV w v g bs) (hb : Bel w w') : LinV w' v g bs := by
  obtain ⟨a0, c0, a1, c1, a2, c2, b0, b1, b2, e1, e2, h0, h1, h2⟩ := h
  exact ⟨a0, c0, a1, c1, a2, c2, b0, b1, b2, e1, e2, h0.bel strE hb, h1.bel trpE hb, h2.bel wlkE hb⟩
theorem LinV.lt {w : World} {v : Value} {g : LinesD} {bs : List Nat} (h : LinV w v g bs) : ∀ x ∈ bs, x < w.heap.size := by
  obtain ⟨a0, c0, a1, c1, a2, c2, b0, b1, b2, e1, _, h0, h1, h2⟩ := h
  subst e1
  intro x hx
  rcases List.mem_append.1 hx with hx | hx
  · exact h0.lt strE x hx
  · rcases List.mem_append.1 hx with hx | hx
    · exact h1.lt trpE x hx
    · exact h2.lt wlkE x hx
theorem LinV.alike {w w' : World} {v : Value} {g : LinesD} {bs : List Nat} (h : LinV w v g bs) (hA : Alike w w' bs) : LinV w' v g bs := by
  obtain ⟨a0, c0, a1, c1, a2, c2, b0, b1, b2, e1, e2, h0, h1, h2⟩ := h
  subst e1
  exact ⟨a0, c0, a1, c1, a2, c2, b0, b1, b2, rfl, e2, h0.alike strE (hA.sub fun _ hx => by simp [hx]), h1.alike trpE (hA.sub fun _ hx => by simp [hx]), h2.alike wlkE (hA.sub fun _ hx => by simp [hx])⟩
/-- The lists of a timetable have lengths within int. -/
def LinN (g : LinesD) : Prop := g.stops.length ≤ maxLen ∧ g.trips.length ≤ maxLen ∧ g.walks.length ≤ maxLen
/-- .. and within what the laws let by. -/
def LinQ (g : LinesD) : Prop := g.stops.length ≤ 1048576 ∧ g.trips.length ≤ 1048576 ∧ g.walks.length ≤ 1048576 ∧ ∀ i (h : i < g.trips.length), g.trips[i].calls.length ≤ 1048576
theorem cellsSlSr : Try.prog.cellsOf 24 = 1 := by kernel_rfl
section
variable {H : Type} {enc : TypeId × Value → H} {W : World} {base : Nat} {spare : Nat → Bool} {held : Bool}
set_option maxRecDepth 100000 in
theorem openStrs {fuel : Nat} {cs : List Value} {x : DataW H × List MemPlace} (h : DataW.trod enc Try.prog W base spare held fuel 24 cs = some x) :
    ∃ a c l bs, cs = [.slice a l.length c] ∧ StrL W a l bs ∧ l.length ≤ maxLen := by
  refine open_sl (by decide) Try.underlying24 cellsStr ?_ h
  intro b o n cs x hl hc hx
  match cs, hl with
  | [v0], _ =>
    obtain ⟨s0, e0, _, z0⟩ := DataW.trod_string (t := 9) Try.underlying9 hx
    have e0 : v0 = .string s0 := by simpa using e0
    rw [e0] at hc
    exact ⟨s0, [], rfl, z0, hc 0 (by simp)⟩
end
end Go.Proofs.Ytonedkibbdbgjaa
