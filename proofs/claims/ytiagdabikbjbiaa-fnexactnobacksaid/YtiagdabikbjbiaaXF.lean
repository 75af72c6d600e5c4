/-
  Labels as data in memory.
  How labels that are handed in are read, one and a row of them.
-/
import Derived.Test.YtiagdabikbjbiaaFlat
import Derived.Test.YtiagdabikbjbiaaXC
namespace Go.Proofs.Ytiagdabikbjbiaa
open Go.RowKit Go.Maps

structure LblD where
  id : Int
  x : Int
  y : Int
  wd : Int
  ht : Int
  rk : Int
def LblE : Elem LblD := fun w b o d bs => bs = [] ∧ In64 d.id ∧ In64 d.x ∧ In64 d.y ∧ In64 d.wd ∧ In64 d.ht ∧ In64 d.rk ∧ w.cell? ⟨b, o, none⟩ = some (.int .i64 d.id) ∧ w.cell? ⟨b, o + 1, none⟩ = some (.int .i64 d.x) ∧ w.cell? ⟨b, o + 2, none⟩ = some (.int .i64 d.y) ∧
  w.cell? ⟨b, o + 3, none⟩ = some (.int .i64 d.wd) ∧ w.cell? ⟨b, o + 4, none⟩ = some (.int .i64 d.ht) ∧ w.cell? ⟨b, o + 5, none⟩ = some (.int .i64 d.rk)
theorem lblE : Stays 6 LblE := ⟨fun ⟨h0, i0, i1, i2, i3, i4, i5, h1, h2, h3, h4, h5, h6⟩ hc _ => ⟨h0, i0, i1, i2, i3, i4, i5, same_cell hc 0 (by decide) h1, same_cell hc 1 (by decide) h2, same_cell hc 2 (by decide) h3, same_cell hc 3 (by decide) h4, same_cell hc 4 (by decide) h5, same_cell hc 5 (by decide) h6⟩, fun ⟨h1, _⟩ x hx => by subst h1; cases hx⟩
abbrev LblL := Sl 6 LblE
def LblP (d : LblD) : Prop := In64 d.id ∧ In64 d.x ∧ In64 d.y ∧ In64 d.wd ∧ In64 d.ht ∧ In64 d.rk
def lblCs (d : LblD) : List Value := [.int .i64 d.id, .int .i64 d.x, .int .i64 d.y, .int .i64 d.wd, .int .i64 d.ht, .int .i64 d.rk]
/-- A label as a value. -/
abbrev lbv (d : LblD) : Value := .agg #[.int .i64 d.id, .int .i64 d.x, .int .i64 d.y, .int .i64 d.wd, .int .i64 d.ht, .int .i64 d.rk]
theorem lblF : Flat 6 LblE LblP lblCs :=
  ⟨fun _ => rfl, fun _ u hu => by simp only [lblCs, List.mem_cons, List.not_mem_nil, or_false] at hu; rcases hu with rfl | rfl | rfl | rfl | rfl | rfl <;> rfl,
    fun ⟨_, i0, i1, i2, i3, i4, i5, h1, h2, h3, h4, h5, h6⟩ => ⟨⟨i0, i1, i2, i3, i4, i5⟩, fun j hj => by match j, hj with | 0, _ => exact h1 | 1, _ => exact h2 | 2, _ => exact h3 | 3, _ => exact h4 | 4, _ => exact h5 | 5, _ => exact h6⟩,
    fun hp hc => ⟨rfl, hp.1, hp.2.1, hp.2.2.1, hp.2.2.2.1, hp.2.2.2.2.1, hp.2.2.2.2.2, hc 0 (by simp [lblCs]), hc 1 (by simp [lblCs]), hc 2 (by simp [lblCs]), hc 3 (by simp [lblCs]), hc 4 (by simp [lblCs]), hc 5 (by simp [lblCs])⟩⟩
end Go.Proofs.Ytiagdabikbjbiaa

namespace Go.Proofs.Ytiagdabikbjbiaa
open Go.ChangeShapes Go.WideShapes Go.ChangeAt Go.RowKit Go.Deep Go.Joins

instance : Inhabited LblD := ⟨⟨0, 0, 0, 0, 0, 0⟩⟩
theorem cellsLPl : Try.prog.cellsOf 88 = 2 := by kernel_rfl
section
variable {H : Type} {enc : TypeId × Value → H} {P : Program} {W : World} {base : Nat} {spare : Nat → Bool} {held : Bool}
theorem trod_struct5 {t : TypeId} {f0 f1 f2 f3 f4 : Field} {fuel : Nat} {cs : List Value} {x : DataW H × List MemPlace} (ht : P.underlying t = some (.struct #[f0, f1, f2, f3, f4])) (h : DataW.trod enc P W base spare held fuel t cs = some x) :
    ∃ y0 y1 y2 y3 y4 n, DataW.trod enc P W base spare held n f0.type ((cs.drop f0.offset).take (P.cellsOf f0.type)) = some y0 ∧
      DataW.trod enc P W base spare held n f1.type ((cs.drop f1.offset).take (P.cellsOf f1.type)) = some y1 ∧ DataW.trod enc P W base spare held n f2.type ((cs.drop f2.offset).take (P.cellsOf f2.type)) = some y2 ∧
      DataW.trod enc P W base spare held n f3.type ((cs.drop f3.offset).take (P.cellsOf f3.type)) = some y3 ∧ DataW.trod enc P W base spare held n f4.type ((cs.drop f4.offset).take (P.cellsOf f4.type)) = some y4 := by
  obtain ⟨xs, n, _, _, _, hlen, hf⟩ := DataW.trod_struct ht h
  match xs, hlen with
  | [y0, y1, y2, y3, y4], _ => exact ⟨y0, y1, y2, y3, y4, n, by simpa using hf 0 f0 rfl, by simpa using hf 1 f1 rfl, by simpa using hf 2 f2 rfl, by simpa using hf 3 f3 rfl, by simpa using hf 4 f4 rfl⟩
end
section
variable {H : Type} {enc : TypeId × Value → H} {W : World} {base : Nat} {spare : Nat → Bool} {held : Bool}
end
section
variable {H : Type} {enc : TypeId × Value → H} {W : World} {base : Nat} {spare : Nat → Bool} {held : Bool}
set_option maxRecDepth 100000 in
theorem openIs {fuel : Nat} {cs : List Value} {x : DataW H × List MemPlace} (h : DataW.trod enc Try.prog W base spare held fuel 48 cs = some x) :
    ∃ a c l bs, cs = [.slice a l.length c] ∧ Ints W a l bs ∧ l.length ≤ maxLen := by
  refine open_sl (by decide) Try.underlying48 cellsI64 ?_ h
  intro b o n cs x hl hc hx
  match cs, hl with
  | [v0], _ =>
    obtain ⟨s0, e0, _, z0⟩ := DataW.trod_int (t := 2) Try.underlying2 hx
    have e0 : v0 = .int .i64 s0 := by simpa using e0
    rw [e0] at hc
    exact ⟨s0, [], rfl, in64_of_wf z0, hc 0 (by simp)⟩
end
set_option maxRecDepth 100000 in
theorem open_ints {H : Type} {enc : TypeId × Value → H} {W : World} {base : Nat} {v : Value} {d : DataW H} {p : List MemPlace}
    (hv : Value.okWide Try.prog W .any base 48 v) (h : DataW.Trod enc Try.prog W 0 (fun _ => true) true 48 v d p) :
    ∃ a c l bs, v = .slice a l.length c ∧ Ints W a l bs ∧ l.length ≤ maxLen := by
  obtain ⟨a, n, c, rfl⟩ := okWide_slice Try.underlying48 hv
  obtain ⟨fuel, hf⟩ := h
  obtain ⟨a', c', l, bs, hcs, hT, hl⟩ := openIs hf
  simp [Value.cells] at hcs
  obtain ⟨rfl, rfl, rfl⟩ := hcs
  exact ⟨_, _, _, _, rfl, hT, hl⟩
end Go.Proofs.Ytiagdabikbjbiaa
