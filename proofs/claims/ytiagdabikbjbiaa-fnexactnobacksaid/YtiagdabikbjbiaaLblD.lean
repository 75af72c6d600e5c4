/-
  Labels as data in memory.
-/
import Derived.Test.YtiagdabikbjbiaaFlat
namespace Go.Proofs.Ytiagdabikbjbiaa
open Go.RowKit Go.Maps

structure LblD where
  id : Int
  x : Int
  y : Int
  wd : Int
  ht : Int
  rk : Int
def LblE : Elem LblD := fun w b o d bs => bs = [] ∧ In64 d.id ∧ In64 d.x ∧ In64 d.y ∧ In64 d.wd ∧ In64 d.ht ∧ In64 d.rk ∧ w.cell? ⟨b, o, none⟩ = some (.int .i64 d.id) ∧ w.cell? ⟨b, o + 1, none⟩ = some (.int .i64 d.x) ∧ w.cell? ⟨b, o + 2, none⟩ = some (.int .i64 d.y) ∧
  w.cell? ⟨b, o + 3, none⟩ = some (.int .i64 d.wd) ∧ w.cell? ⟨b, o + 4, none⟩ = some (.int .i64 d.ht) ∧ w.cell? ⟨b, o + 5, none⟩ = some (.int .i64 d.rk)
theorem lblE : Stays 6 LblE := ⟨fun ⟨h0, i0, i1, i2, i3, i4, i5, h1, h2, h3, h4, h5, h6⟩ hc _ => ⟨h0, i0, i1, i2, i3, i4, i5, same_cell hc 0 (by decide) h1, same_cell hc 1 (by decide) h2, same_cell hc 2 (by decide) h3, same_cell hc 3 (by decide) h4, same_cell hc 4 (by decide) h5, same_cell hc 5 (by decide) h6⟩, fun ⟨h1, _⟩ x hx => by subst h1; cases hx⟩
abbrev LblL := Sl 6 LblE
def LblP (d : LblD) : Prop := In64 d.id ∧ In64 d.x ∧ In64 d.y ∧ In64 d.wd ∧ In64 d.ht ∧ In64 d.rk
def lblCs (d : LblD) : List Value := [.int .i64 d.id, .int .i64 d.x, .int .i64 d.y, .int .i64 d.wd, .int .i64 d.ht, .int .i64 d.rk]
/-- A label as a value. -/
abbrev lbv (d : LblD) : Value := .agg #[.int .i64 d.id, .int .i64 d.x, .int .i64 d.y, .int .i64 d.wd, .int .i64 d.ht, .int .i64 d.rk]
theorem lblF : Flat 6 LblE LblP lblCs :=
  ⟨fun _ => rfl, fun _ u hu => by simp only [lblCs, List.mem_cons, List.not_mem_nil, or_false] at hu; rcases hu with rfl | rfl | rfl | rfl | rfl | rfl <;> rfl,
    fun ⟨_, i0, i1, i2, i3, i4, i5, h1, h2, h3, h4, h5, h6⟩ => ⟨⟨i0, i1, i2, i3, i4, i5⟩, fun j hj => by match j, hj with | 0, _ => exact h1 | 1, _ => exact h2 | 2, _ => exact h3 | 3, _ => exact h4 | 4, _ => exact h5 | 5, _ => exact h6⟩,
    fun hp hc => ⟨rfl, hp.1, hp.2.1, hp.2.2.1, hp.2.2.2.1, hp.2.2.2.2.1, hp.2.2.2.2.2, hc 0 (by simp [lblCs]), hc 1 (by simp [lblCs]), hc 2 (by simp [lblCs]), hc 3 (by simp [lblCs]), hc 4 (by simp [lblCs]), hc 5 (by simp [lblCs])⟩⟩
end Go.Proofs.Ytiagdabikbjbiaa
