/-
  Tags that can be: plain facts, with no program in them.
-/
import Derived.Test.YtonedkibbdbgjaaWordC
import Derived.Test.YtonedkibbdbgjaaMem
namespace Go.Proofs.Ytonedkibbdbgjaa
open Go.RowKit

/-- The one text stands ahead of the other. -/
def ltS (a b : ByteArray) : Bool := Op.bytesLess a.toList b.toList
theorem bytesLess_flip : ∀ a b : List UInt8, (Op.bytesLess a b || a == b) = !Op.bytesLess b a
  | [], [] => by simp [Op.bytesLess]
  | [], _ :: _ => by simp [Op.bytesLess]
  | _ :: _, [] => by simp [Op.bytesLess]
  | a :: x, b :: y => by
    have ih := bytesLess_flip x y
    simp only [Op.bytesLess]
    by_cases h1 : a < b
    · have h2 : ¬ b < a := fun h => absurd (UInt8.lt_trans h1 h) (UInt8.lt_irrefl _)
      have h3 : ¬ b = a := fun h => by subst h; exact UInt8.lt_irrefl _ h1
      simp [h1, h2, h3]
    · by_cases h2 : b < a
      · have h3 : ¬ a = b := fun h => by subst h; exact UInt8.lt_irrefl _ h2
        simp [h1, h2, h3]
      · have h3 : a = b := UInt8.le_antisymm (UInt8.not_lt.1 h2) (UInt8.not_lt.1 h1)
        subst h3
        simp only [h1, decide_false, Bool.false_or, beq_self_eq_true, Bool.true_and] at *
        simpa using ih
theorem leS (a b : ByteArray) : (Op.bytesLess a.toList b.toList || a.toList == b.toList) = !ltS b a := bytesLess_flip _ _

/-- The tag at place i is as it should be behind the one ahead. -/
def TagOkAt (l : List TagD) (i : Nat) (h : i < l.length) : Prop :=
  wordB l[i].k = true ∧ valB l[i].v = true ∧ (0 < i → ltS (l[i - 1]'(by omega)).k l[i].k = true)
def TagsOkP (l : List TagD) : Prop := l.length ≤ 30 ∧ ∀ i (h : i < l.length), TagOkAt l i h
/-- Whether something holds. -/
noncomputable def bP (p : Prop) : Bool := @decide p (Classical.propDecidable p)
theorem bP_true {p : Prop} (h : p) : bP p = true := @decide_eq_true p (Classical.propDecidable p) h
theorem bP_false {p : Prop} (h : ¬ p) : bP p = false := @decide_eq_false p (Classical.propDecidable p) h
theorem bP_out {p : Prop} (h : bP p = true) : p := @of_decide_eq_true p (Classical.propDecidable p) h
theorem bP_not {p : Prop} (h : bP p = false) : ¬ p := @of_decide_eq_false p (Classical.propDecidable p) h

noncomputable def tagsB (l : List TagD) : Bool := bP (TagsOkP l)
theorem tagsB_big {l : List TagD} (h : ¬ l.length ≤ 30) : tagsB l = false := bP_false fun hh => h hh.1
theorem tagsB_at {l : List TagD} {i : Nat} (h : i < l.length) (hn : ¬ TagOkAt l i h) : tagsB l = false := bP_false fun hh => hn (hh.2 i h)
theorem tagsB_true {l : List TagD} (h : l.length ≤ 30) (ha : ∀ i (h : i < l.length), TagOkAt l i h) : tagsB l = true := bP_true ⟨h, ha⟩
theorem tagsB_out {l : List TagD} (h : tagsB l = true) : TagsOkP l := bP_out h
end Go.Proofs.Ytonedkibbdbgjaa
