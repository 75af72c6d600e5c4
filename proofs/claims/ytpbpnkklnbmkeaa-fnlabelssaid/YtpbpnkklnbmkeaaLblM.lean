/-
  Labels: when a list of them can be; which of them are chosen; what they weigh: plain mathematics.
-/
import Derived.Test.YtpbpnkklnbmkeaaLblC
namespace Go.Proofs.Ytpbpnkklnbmkeaa
open Go.RowKit Go.Maps

def lblsP (l : List LblD) : Prop := l.length ≤ 500 ∧ ∀ i (h : i < l.length), lblK l[i] = true ∧ ∀ j (hj : j < i), (l[j]'(by omega)).id ≠ l[i].id
/-- The Ids of the first k. -/
def idsTo (l : List LblD) (k : Nat) (y : Int) : Prop := ∃ j, ∃ h : j < l.length, j < k ∧ l[j].id = y
theorem lblsP_many {l : List LblD} (h : ¬ l.length ≤ 500) : bP (lblsP l) = false := bP_false fun hh => h hh.1
theorem lblsP_no {l : List LblD} {k : Nat} (hk : k < l.length) (h : lblK l[k] = false) : bP (lblsP l) = false := bP_false fun hh => by have := (hh.2 k hk).1; rw [h] at this; cases this
theorem lblsP_two {l : List LblD} {k : Nat} (hk : k < l.length) (h : idsTo l k l[k].id) : bP (lblsP l) = false := bP_false fun hh => by
  obtain ⟨j, hj, hjk, e⟩ := h
  exact (hh.2 k hk).2 j hjk e
theorem idsTo_step {l : List LblD} {k : Nat} (hk : k < l.length) : (fun y => y ∈ [l[k].id] ∨ idsTo l k y) = idsTo l (k + 1) := by
  funext y
  simp only [List.mem_singleton, eq_iff_iff, idsTo]
  constructor
  · rintro (h | ⟨j, hj, hjk, h⟩)
    · exact ⟨k, hk, by omega, h.symm⟩
    · exact ⟨j, hj, by omega, h⟩
  · rintro ⟨j, hj, hjk, h⟩
    by_cases e : j = k
    · subst e; exact .inl h.symm
    · exact .inr ⟨j, hj, by omega, h⟩
theorem idsTo_zero (l : List LblD) : idsTo l 0 = fun _ => False := by funext y; simp [idsTo]
/-- Those of which the Id is among these. -/
def chQ (l : List LblD) (ids : List Int) : List LblD := l.filter (fun d => decide (d.id ∈ ids))
theorem chQ_len (l : List LblD) (ids : List Int) : (chQ l ids).length ≤ l.length := List.length_filter_le _ _
theorem chQ_mem {l : List LblD} {ids : List Int} {d : LblD} (h : d ∈ chQ l ids) : d ∈ l := (List.mem_filter.1 h).1
theorem chQ_step {l : List LblD} {ids : List Int} {k : Nat} (hk : k < l.length) (h : l[k].id ∈ ids) : chQ (l.take (k + 1)) ids = chQ (l.take k) ids ++ [l[k]] := by
  unfold chQ; rw [List.take_succ_eq_append_getElem hk, List.filter_append]; simp [h]
theorem chQ_skip {l : List LblD} {ids : List Int} {k : Nat} (hk : k < l.length) (h : ¬ l[k].id ∈ ids) : chQ (l.take (k + 1)) ids = chQ (l.take k) ids := by
  unfold chQ; rw [List.take_succ_eq_append_getElem hk, List.filter_append]; simp [h]
/-- What they weigh. -/
def rkS : List LblD → Int
  | [] => 0
  | d :: r => d.rk + rkS r
theorem rkS_app (l m : List LblD) : rkS (l ++ m) = rkS l + rkS m := by
  induction l with
  | nil => simp [rkS]
  | cons d r ih => simp only [List.cons_append, rkS, ih]; omega
theorem rkS_one (d : LblD) : rkS [d] = d.rk := by simp [rkS]
theorem rkS_bd : ∀ {l : List LblD}, (∀ d ∈ l, lblK d = true) → 0 ≤ rkS l ∧ rkS l ≤ 1000 * (l.length : Int)
  | [], _ => by simp [rkS]
  | d :: r, h => by
    have h1 := rkS_bd (l := r) (fun e he => h e (List.mem_cons_of_mem _ he))
    obtain ⟨_, _, _, _, h2, h3⟩ := lblK_out (h d (List.mem_cons_self ..))
    simp only [rkS, List.length_cons]
    omega
theorem lblsP_mem {l : List LblD} (h : lblsP l) {d : LblD} (hd : d ∈ l) : lblK d = true := by
  obtain ⟨i, hi, rfl⟩ := List.mem_iff_getElem.1 hd
  exact (h.2 i hi).1
/-- What these Ids weigh. -/
noncomputable def wtQ (l : List LblD) (ids : List Int) : Int := if bP (lblsP l) = true then rkS (chQ l ids) else 0
theorem Sl.take {α : Type} {q : Nat} {E : Elem α} {w : World} {a : Option Addr} {l : List α} {bs : List Nat} (h : Sl q E w a l bs) (k : Nat) (hk : k ≤ l.length) : ∃ cs, Sl q E w a (l.take k) cs := by
  rcases h with ⟨rfl, _⟩ | ⟨b, off, f, ha, hb, _, hx⟩
  · exact ⟨[], .inl ⟨by simp, rfl⟩⟩
  · refine ⟨_, .inr ⟨b, off, f, ha, hb, rfl, fun i hi => ?_⟩⟩
    have : i < l.length := by simp at hi; omega
    simpa using hx i this
/-- Is one with this Id there? -/
def fndB (l : List LblD) (x : Int) : Bool := l.any (fun d => decide (d.id = x))
theorem fndB_iff {l : List LblD} {k : Nat} {x : Int} (hk : k ≤ l.length) : fndB (l.take k) x = bP (idsTo l k x) := by
  rw [Bool.eq_iff_iff]
  simp only [fndB, List.any_eq_true, decide_eq_true_eq]
  constructor
  · rintro ⟨d, hd, rfl⟩
    obtain ⟨i, hi, rfl⟩ := List.mem_iff_getElem.1 hd
    have hi' : i < l.length ∧ i < k := by simp at hi; omega
    exact bP_true ⟨i, hi'.1, hi'.2, by simp⟩
  · intro h
    obtain ⟨j, hj, hjk, e⟩ := bP_out h
    exact ⟨l[j], List.mem_iff_getElem.2 ⟨j, by simp; omega, by simp⟩, e⟩
end Go.Proofs.Ytpbpnkklnbmkeaa
