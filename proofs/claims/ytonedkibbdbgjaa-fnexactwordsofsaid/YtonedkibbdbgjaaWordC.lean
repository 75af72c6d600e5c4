/-
  Contracts of what a Key and a Value may be, in the program and in its model: for every text.
-/
import Derived.Test.YtonedkibbdbgjaaGeo
import Derived.WalkLawsBesides
namespace Go.Proofs.Ytonedkibbdbgjaa
open Go.RowKit

/-- A byte of a Key. -/
def wb (n : Int) : Bool := decide (97 ≤ n ∧ n ≤ 122 ∨ 48 ≤ n ∧ n ≤ 57 ∨ n = 58 ∨ n = 95)
/-- A byte of a Value. -/
def vb (n : Int) : Bool := decide (32 ≤ n ∧ n ≤ 126)
/-- The byte at a place, as a number. -/
def byteAt (s : ByteArray) (i : Nat) : Int := ((s.data.toList.getD i 0).toNat : Int)
theorem byteAt_eq {s : ByteArray} {i : Nat} (h : i < s.size) : (s[i].toNat : Int) = byteAt s i := by
  have h' : i < s.data.toList.length := by simpa using h
  unfold byteAt
  rw [List.getD_eq_getElem?_getD, List.getElem?_eq_getElem h']
  rfl
theorem byteAt_bd (s : ByteArray) (i : Nat) : 0 ≤ byteAt s i ∧ byteAt s i ≤ 255 := by
  unfold byteAt
  have := (s.data.toList.getD i 0).toNat_lt
  omega
/-- A text of at least 1 and at most m bytes, each as p says. -/
def textB (p : Int → Bool) (m : Nat) (s : ByteArray) : Bool := decide (1 ≤ s.size ∧ s.size ≤ m ∧ ∀ i, i < s.size → p (byteAt s i) = true)
theorem textB_not {p : Int → Bool} {m : Nat} {s : ByteArray} (h : ¬ (1 ≤ s.size ∧ s.size ≤ m)) : textB p m s = false := by
  simp only [textB, decide_eq_false_iff_not]; intro hh; exact h ⟨hh.1, hh.2.1⟩
theorem textB_at {p : Int → Bool} {m : Nat} {s : ByteArray} {i : Nat} (h : i < s.size) (hp : p (byteAt s i) = false) : textB p m s = false := by
  simp only [textB, decide_eq_false_iff_not]; intro hh; have := hh.2.2 i h; rw [hp] at this; cases this
theorem textB_true {p : Int → Bool} {m : Nat} {s : ByteArray} (h : 1 ≤ s.size) (h' : s.size ≤ m) (ha : ∀ i, i < s.size → p (byteAt s i) = true) : textB p m s = true := by
  simp only [textB, decide_eq_true_eq]; exact ⟨h, h', ha⟩
theorem ret_bl {a b : Bool} (h : a = b) : Ending.returned (.bool a) = .returned (.bool b) := by rw [h]
def wordB (s : ByteArray) : Bool := textB wb 40 s
def valB (s : ByteArray) : Bool := textB vb 100 s

end Go.Proofs.Ytonedkibbdbgjaa
