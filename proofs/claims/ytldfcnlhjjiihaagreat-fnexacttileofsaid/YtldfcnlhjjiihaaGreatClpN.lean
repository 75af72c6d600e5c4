/-
  The pieces of a clipped row, how stretches are joined: mathematics.
-/
import Derived.Test.YtldfcnlhjjiihaaGreatCD
import Derived.Test.YtldfcnlhjjiihaaGreatCE
import Derived.Test.YtldfcnlhjjiihaaGreatCB
namespace Go.Proofs.YtldfcnlhjjiihaaGreat
open Go.RowKit Go.Maps

/-- The last point of the last piece is this one. -/
def lastB (L : List (List PtD)) (f : PtD) : Bool := match L.getLast? with
 | none => false
 | some c => match c.getLast? with
  | none => false
  | some z => decide (z.x = f.x) && decide (z.y = f.y)
/-- A stretch more. -/
def addC (L : List (List PtD)) (op : Bool) (f t : PtD) : List (List PtD) :=
 if (op && lastB L f) = true then L.dropLast ++ [(L.getLast?.getD []) ++ [t]] else L ++ [[f, t]]
/-- Behind k stretches of a row. -/
def clpQ (q : BoxD) (X Y : Nat → Int) : Nat → List (List PtD) × Bool
 | 0 => ([], false)
 | k + 1 => match strC q (X k) (Y k) (X (k + 1)) (Y (k + 1)) with
  | none => ((clpQ q X Y k).1, false)
  | some t => (addC (clpQ q X Y k).1 (clpQ q X Y k).2 ⟨t.px, t.py⟩ ⟨t.qx, t.qy⟩, true)
def ordB (q : BoxD) : Bool := decide (q.a ≤ q.c) && decide (q.b ≤ q.d)
/-- The pieces of a row in a box. -/
def clipQ (q : BoxD) (n : Nat) (X Y : Nat → Int) : List (List PtD) := if (rowB n X Y && ordB q) = true then (clpQ q X Y (n - 1)).1 else []

theorem snocL {α : Type} (L : List α) : L = [] ∨ ∃ D c, L = D ++ [c] := by
 rcases List.eq_nil_or_concat L with h | ⟨D, c, h⟩
 ·exact .inl h
 ·exact .inr ⟨D, c, by rw [h]; simp⟩
/-- Good pieces: none is empty, their points are numbers of 64 bits. -/
structure GoodP (L : List (List PtD)) : Prop where
 ne : ∀ c ∈ L, c ≠ []
 in64 : ∀ c ∈ L, ∀ d ∈ c, PqP d
theorem GoodP.add {L : List (List PtD)} (h : GoodP L) (op : Bool) {f t : PtD} (hf : PqP f) (ht : PqP t) : GoodP (addC L op f t) := by
 unfold addC
 split
 ·rcases snocL L with rfl | ⟨D, c, rfl⟩
  ·exact ⟨by simp, by simpa using ht⟩
  ·simp only [List.dropLast_concat, List.getLast?_concat, Option.getD_some]
   refine ⟨fun x hx => ?_, fun x hx d hd => ?_⟩
   ·rcases List.mem_append.1 hx with hx | hx
    ·exact h.ne x (by simp [hx])
    ·obtain rfl := List.mem_singleton.1 hx
     simp
   ·rcases List.mem_append.1 hx with hx | hx
    ·exact h.in64 x (by simp [hx]) d hd
    ·obtain rfl := List.mem_singleton.1 hx
     rcases List.mem_append.1 hd with hd | hd
     ·exact h.in64 c (by simp) d hd
     ·obtain rfl := List.mem_singleton.1 hd
      exact ht
 ·refine ⟨fun x hx => ?_, fun x hx d hd => ?_⟩
  ·rcases List.mem_append.1 hx with hx | hx
   ·exact h.ne x hx
   ·obtain rfl := List.mem_singleton.1 hx
    simp
  ·rcases List.mem_append.1 hx with hx | hx
   ·exact h.in64 x hx d hd
   ·obtain rfl := List.mem_singleton.1 hx
    simp only [List.mem_cons, List.not_mem_nil, or_false] at hd
    rcases hd with rfl | rfl
    ·exact hf
    ·exact ht
theorem addC_ne (L : List (List PtD)) (op : Bool) (f t : PtD) : addC L op f t ≠ [] := by
 unfold addC; split <;> simp
theorem addC_len (L : List (List PtD)) (op : Bool) (f t : PtD) : (addC L op f t).length ≤ L.length + 1 := by
 unfold addC; split <;> simp
theorem addC_flat (L : List (List PtD)) (op : Bool) (f t : PtD) : (addC L op f t).flatten.length ≤ L.flatten.length + 2 := by
 unfold addC; split
 ·rcases snocL L with rfl | ⟨D, c, rfl⟩ <;> simp <;> omega
 ·simp
/-- A stretch's ends lie in the box. -/
theorem clm_bd {x lo hi : Int} (h : lo ≤ hi) : lo ≤ clm x lo hi ∧ clm x lo hi ≤ hi := by unfold clm; omega
structure Box64 (q : BoxD) : Prop where
 a : In64 q.a
 b : In64 q.b
 c : In64 q.c
 d : In64 q.d
theorem in64_btw {a b x : Int} (ha : In64 a) (hb : In64 b) (h : a ≤ x ∧ x ≤ b) : In64 x := by unfold In64 at *; omega
theorem strC_bd {q : BoxD} {ax ay bx b_y : Int} {t : StD} (h : strC q ax ay bx b_y = some t) (hx : q.a ≤ q.c) (hy : q.b ≤ q.d) (h6 : Box64 q) : PqP ⟨t.px, t.py⟩ ∧ PqP ⟨t.qx, t.qy⟩ := by
 unfold strC at h
 obtain ⟨s, _, h⟩ := Option.bind_eq_some_iff.1 h
 simp only at h
 split at h
 ·cases h
 ·injection h with h
  subst h
  exact ⟨⟨in64_btw h6.a h6.c (clm_bd hx), in64_btw h6.b h6.d (clm_bd hy)⟩, ⟨in64_btw h6.a h6.c (clm_bd hx), in64_btw h6.b h6.d (clm_bd hy)⟩⟩
theorem GoodP.pos {L : List (List PtD)} (h : GoodP L) (hL : L ≠ []) : 0 < L.flatten.length := by
 rcases snocL L with rfl | ⟨D, c, rfl⟩
 ·exact absurd rfl hL
 ·have := List.length_pos_iff.2 (h.ne c (by simp))
  simp only [List.flatten_append, List.length_append, List.flatten_cons, List.flatten_nil, List.append_nil]
  omega
structure ClpJ (L : List (List PtD)) (op : Bool) (k : Nat) : Prop where
 good : GoodP L
 ne : op = true → L ≠ []
 len : L.length ≤ k
 flat : L.flatten.length ≤ 2 * k
theorem clpJ {q : BoxD} {X Y : Nat → Int} (hx : q.a ≤ q.c) (hy : q.b ≤ q.d) (h6 : Box64 q) : ∀ k, ClpJ (clpQ q X Y k).1 (clpQ q X Y k).2 k
 | 0 => ⟨⟨(fun _ h => nomatch h), (fun _ h => nomatch h)⟩, (fun h => nomatch h), Nat.le_refl _, Nat.le_refl _⟩
 | k + 1 => by
  have h := clpJ (X := X) (Y := Y) hx hy h6 k
  unfold clpQ
  cases e : strC q (X k) (Y k) (X (k + 1)) (Y (k + 1)) with
  | none => exact ⟨h.good, (fun h => nomatch h), Nat.le_succ_of_le h.len, Nat.le_trans h.flat (by omega)⟩
  | some t =>
   obtain ⟨p1, p2⟩ := strC_bd e hx hy h6
   exact ⟨h.good.add _ p1 p2, fun _ => addC_ne _ _ _ _, Nat.le_trans (addC_len _ _ _ _) (Nat.succ_le_succ h.len), Nat.le_trans (addC_flat _ _ _ _) (by have := h.flat; omega)⟩

/-- How many points lie ahead of piece i. -/
def stN (L : List (List PtD)) (i : Nat) : Nat := (L.take i).flatten.length
/-- Where the pieces begin. -/
def startsL (L : List (List PtD)) : List Nat := (List.range L.length).map (stN L)
theorem stN_all (L : List (List PtD)) : stN L L.length = L.flatten.length := by unfold stN; rw [List.take_length]
theorem stN_succ {L : List (List PtD)} {i : Nat} (h : i < L.length) : stN L (i + 1) = stN L i + L[i].length := by
 unfold stN; rw [List.take_succ_eq_append_getElem h, List.flatten_append, List.length_append]; congr 1; simp
theorem startsL_len (L : List (List PtD)) : (startsL L).length = L.length := by simp [startsL]
theorem startsL_get {L : List (List PtD)} {i : Nat} (h : i < (startsL L).length) : (startsL L)[i] = stN L i := by simp [startsL]
theorem startsL_snoc (D : List (List PtD)) (c : List PtD) : startsL (D ++ [c]) = startsL D ++ [D.flatten.length] := by
 unfold startsL
 rw [List.length_append, List.length_singleton, List.range_succ, List.map_append]
 congr 1
 ·apply List.map_congr_left
  intro i hi
  have := List.mem_range.1 hi
  unfold stN
  rw [List.take_append_of_le_length (by omega)]
 ·simp [stN]
theorem addC_join {L : List (List PtD)} {op : Bool} {f t : PtD} (h : (op && lastB L f) = true) : (addC L op f t).flatten = L.flatten ++ [t] ∧ startsL (addC L op f t) = startsL L := by
 unfold addC
 rw [if_pos h]
 rcases snocL L with rfl | ⟨D, c, rfl⟩
 ·simp [lastB] at h
 ·simp only [List.dropLast_concat, List.getLast?_concat, Option.getD_some]
  exact ⟨by simp, by rw [startsL_snoc, startsL_snoc]⟩
theorem addC_new {L : List (List PtD)} {op : Bool} {f t : PtD} (h : (op && lastB L f) = false) : (addC L op f t).flatten = L.flatten ++ [f] ++ [t] ∧ startsL (addC L op f t) = startsL L ++ [L.flatten.length] := by
 unfold addC
 rw [if_neg (by rw [h]; decide)]
 exact ⟨by simp, startsL_snoc _ _⟩
/-- The last point of all. -/
theorem lastB_iff {L : List (List PtD)} {f : PtD} (h : GoodP L) : lastB L f = true ↔ ∃ h : L.flatten.length - 1 < L.flatten.length, L.flatten[L.flatten.length - 1].x = f.x ∧ L.flatten[L.flatten.length - 1].y = f.y := by
 rcases snocL L with rfl | ⟨D, c, rfl⟩
 ·simp [lastB]
 ·rcases snocL c with rfl | ⟨e, z, rfl⟩
  ·exact absurd rfl (h.ne [] (by simp))
  ·have e1 : (D ++ [e ++ [z]]).flatten = (D.flatten ++ e) ++ [z] := by simp
   have e2 : lastB (D ++ [e ++ [z]]) f = (decide (z.x = f.x) && decide (z.y = f.y)) := by simp [lastB]
   rw [e2]
   generalize (D ++ [e ++ [z]]).flatten = F at e1
   subst e1
   simp
/-- Point j of piece i. -/
theorem flat_at {L : List (List PtD)} {i j : Nat} (hi : i < L.length) (hj : j < L[i].length) : ∃ h : stN L i + j < L.flatten.length, L.flatten[stN L i + j] = L[i][j] := by
 have e : L.flatten = (L.take i).flatten ++ (L[i] ++ (L.drop (i + 1)).flatten) := by
  have h1 : L = L.take i ++ (L[i] :: L.drop (i + 1)) := by rw [← List.drop_eq_getElem_cons hi, List.take_append_drop]
  have h2 := congrArg List.flatten h1
  rw [List.flatten_append, List.flatten_cons] at h2
  exact h2
 generalize L.flatten = F at e
 subst e
 unfold stN
 refine ⟨by simp; omega, ?_⟩
 rw [List.getElem_append_right (by omega), List.getElem_append_left (by omega)]
 simp
end Go.Proofs.YtldfcnlhjjiihaaGreat
