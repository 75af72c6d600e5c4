/-
  The pieces of a clipped row in the model: rows of their own in a row of the call's own.
-/
import Derived.Test.YtldfcnlhjjiihaaGreatClpN
import Derived.Test.YtldfcnlhjjiihaaGreatCH
import Derived.Laws.AppendOwnNone
import Derived.Laws.OwnMore
import Derived.Deep.AppendLies
namespace Go.Proofs.YtldfcnlhjjiihaaGreat
open Go.RowKit Go.Maps

/-- The length of piece i. -/
def lnP (L : List (List PtD)) (i : Nat) : Nat := (L[i]?.getD []).length
/-- The slices. -/
def rwV (L : List (List PtD)) (G C : Nat → Nat) (i : Nat) : Value := .slice (some ⟨G i, 0, none⟩) (lnP L i) (C i)
def rwVs (L : List (List PtD)) (G C : Nat → Nat) : List Value := (List.range L.length).map (rwV L G C)
structure RwM (lo : Nat) (w : World) (v : Value) (L : List (List PtD)) (G C : Nat → Nat) : Prop where
 own : w.ownsRow lo 54 1 v L.length (rwVs L G C)
 row : ∀ i (h : i < L.length), w.ownsRow lo 61 2 (.slice (some ⟨G i, 0, none⟩) L[i].length (C i)) L[i].length (L[i].flatMap pqCs)
 off : ∀ i, i < L.length → v.ownBlock ≠ some (G i)
 ap : ∀ i j, i < L.length → j < L.length → i ≠ j → G i ≠ G j
theorem RwM.lt {lo : Nat} {w : World} {v : Value} {L : List (List PtD)} {G C : Nat → Nat} (h : RwM lo w v L G C) {i : Nat} (hi : i < L.length) : lo ≤ G i ∧ G i < w.heap.size := (h.row i hi).lt _ rfl
theorem RwM.kept {lo : Nat} {w w' : World} {v : Value} {L : List (List PtD)} {G C : Nat → Nat} {r : Option Nat} (h : RwM lo w v L G C) (hg : w.grownBy w' r) (h1 : v.ownBlock = none ∨ v.ownBlock ≠ r) (h2 : ∀ i, i < L.length → some (G i) ≠ r) : RwM lo w' v L G C :=
 ⟨h.own.kept hg h1, fun i hi => (h.row i hi).kept hg (.inr (h2 i hi)), h.off, h.ap⟩
theorem RwM.bel {lo : Nat} {w w' : World} {v : Value} {L : List (List PtD)} {G C : Nat → Nat} (h : RwM lo w v L G C) (hb : Bel w w') : RwM lo w' v L G C :=
 h.kept (bel_none hb) (Classical.em _) (fun _ _ e => nomatch e)
theorem RwM.nil (lo : Nat) (w : World) (hb : lo ≤ w.heap.size) : RwM lo (w.alloc (.cells #[] 54)) (.slice (some ⟨w.heap.size, 0, none⟩) 0 0) [] (fun _ => 0) (fun _ => 0) :=
 ⟨World.ownsRow_lit w #[] 0 hb (by decide) rfl, (fun _ h => nomatch h), (fun _ h => nomatch h), (fun _ _ h => nomatch h)⟩
theorem rwVs_get {L : List (List PtD)} {G C : Nat → Nat} {i : Nat} (h : i < L.length) : (rwVs L G C)[i]? = some (.slice (some ⟨G i, 0, none⟩) L[i].length (C i)) := by
 simp [rwVs, rwV, h, lnP]
theorem fl_len (e : List PtD) : (e.flatMap pqCs).length = e.length * 2 := by
 induction e with
 | nil => rfl
 | cons a e ih => rw [List.flatMap_cons, List.length_append, ih]; simp [pqCs]; omega
theorem fl_last (e : List PtD) (z : PtD) : ((e ++ [z]).flatMap pqCs)[e.length * 2]? = some (.int .i64 z.x) ∧ ((e ++ [z]).flatMap pqCs)[e.length * 2 + 1]? = some (.int .i64 z.y) := by
 rw [List.flatMap_append]
 constructor
 ·rw [List.getElem?_append_right (by rw [fl_len]; omega), fl_len]; simp [pqCs]
 ·rw [List.getElem?_append_right (by rw [fl_len]; omega), fl_len]; simp [pqCs]
/-- A piece more. -/
theorem RwM.add {lo : Nat} {w wa wb : World} {v v' : Value} {L : List (List PtD)} {G C : Nat → Nat} {f t : PtD} {b : Nat} (h : RwM lo w v L G C) (hb : Bel w wa) (hB : wa.ownsRow lo 61 2 (.slice (some ⟨b, 0, none⟩) 2 2) 2 [.int .i64 f.x, .int .i64 f.y, .int .i64 t.x, .int .i64 t.y]) (hbn : w.heap.size ≤ b)
  (ho : wb.ownsRow lo 54 1 v' (L.length + 1) (rwVs L G C ++ [.slice (some ⟨b, 0, none⟩) 2 2])) (hg : wa.grownBy wb v.ownBlock) (hat : v'.ownBlock = v.ownBlock ∨ v'.ownBlock = some wa.heap.size) :
  RwM lo wb v' (L ++ [[f, t]]) (fun i => if i = L.length then b else G i) (fun i => if i = L.length then 2 else C i) := by
 have hbl := (hB.lt b rfl).2
 have hvb : v.ownBlock ≠ some b := fun e => by have := (h.own.lt b e).2; omega
 have hne : ∀ i, i < L.length → v'.ownBlock ≠ some (G i) := fun i hi e => by
  rcases hat with h1 | h1
  ·rw [h1] at e; exact h.off i hi e
  ·rw [h1] at e
   injection e with e
   have := (h.lt hi).2
   have := hb.out.size
   omega
 have ha := h.bel hb
 have hv : rwVs (L ++ [[f, t]]) (fun i => if i = L.length then b else G i) (fun i => if i = L.length then 2 else C i) = rwVs L G C ++ [.slice (some ⟨b, 0, none⟩) 2 2] := by
  unfold rwVs
  rw [List.length_append, List.length_singleton, List.range_succ, List.map_append]
  congr 1
  ·apply List.map_congr_left
   intro i hi
   have hi := List.mem_range.1 hi
   have h1 : i ≠ L.length := by omega
   simp only [rwV, if_neg h1, lnP, List.getElem?_append_left hi]
  ·simp [rwV, lnP]
 refine ⟨by rw [hv, List.length_append]; exact ho, fun i hi => ?_, fun i hi => ?_, fun i j hi hj hij => ?_⟩
 ·rw [List.length_append, List.length_singleton] at hi
  by_cases e : i = L.length
  ·subst e
   simp only [↓reduceIte]
   have : (L ++ [[f, t]])[L.length]'(by simp) = [f, t] := by simp
   rw [this]
   exact hB.kept hg (.inr fun e => hvb e.symm)
  ·have hi' : i < L.length := by omega
   simp only [if_neg e, List.getElem_append_left hi']
   exact (ha.row i hi').kept hg (.inr fun e => h.off i hi' e.symm)
 ·rw [List.length_append, List.length_singleton] at hi
  by_cases e : i = L.length
  ·simp only [if_pos e]
   intro e2
   rcases hat with h1 | h1
   ·rw [h1] at e2; exact hvb e2
   ·rw [h1] at e2; injection e2 with e2; omega
  ·simp only [if_neg e]
   exact hne i (by omega)
 ·rw [List.length_append, List.length_singleton] at hi hj
  have hGb : ∀ i, i < L.length → G i ≠ b := fun i hi e => by have := (h.lt hi).2; omega
  by_cases e : i = L.length
  ·by_cases e' : j = L.length
   ·omega
   ·simp only [if_pos e, if_neg e']; exact fun e => hGb j (by omega) e.symm
  ·by_cases e' : j = L.length
   ·simp only [if_neg e, if_pos e']; exact hGb i (by omega)
   ·simp only [if_neg e, if_neg e']; exact h.ap i j (by omega) (by omega) hij
/-- The last piece has a point more. -/
theorem RwM.grow {lo : Nat} {w wa wb : World} {o n cap : Nat} {D : List (List PtD)} {c : List PtD} {G C : Nat → Nat} {t : PtD} {g' cap' : Nat} (h : RwM lo w (.slice (some ⟨o, 0, none⟩) n cap) (D ++ [c]) G C) (hn : n = D.length + 1) (hb : Bel w wa)
  (ho : wb.ownsRow lo 61 2 (.slice (some ⟨g', 0, none⟩) (c.length + 1) cap') (c.length + 1) (c.flatMap pqCs ++ pqCs t)) (hg : wa.grownBy wb (some (G D.length))) (hat : g' = G D.length ∨ g' = wa.heap.size) :
  RwM lo (wb.setCell ⟨o, D.length, none⟩ (.slice (some ⟨g', 0, none⟩) (c.length + 1) cap')) (.slice (some ⟨o, 0, none⟩) n cap) (D ++ [c ++ [t]]) (fun i => if i = D.length then g' else G i) (fun i => if i = D.length then cap' else C i) := by
 subst hn
 have hl : (D ++ [c]).length = D.length + 1 := by simp
 have hl' : (D ++ [c ++ [t]]).length = D.length + 1 := by simp
 have ha := h.bel hb
 have hoff : ∀ i, i < D.length + 1 → o ≠ G i := fun i hi e => h.off i (by rw [hl]; exact hi) (by show some o = some (G i); rw [e])
 have hol : o < wa.heap.size := (ha.own.lt o rfl).2
 have hog : o ≠ g' := by
  rcases hat with e | e
  ·rw [e]; exact hoff _ (by omega)
  ·omega
 have hGg : ∀ i, i < D.length → G i ≠ g' := fun i hi e => by
  rcases hat with e2 | e2
  ·exact h.ap i D.length (by rw [hl]; omega) (by rw [hl]; omega) (by omega) (e.trans e2)
  ·have := (ha.lt (i := i) (by rw [hl]; omega)).2; omega
 have hown := ha.own.kept hg (.inr (by show some o ≠ some (G D.length); exact fun e => hoff D.length (by omega) (by injection e)))
 rw [hl] at hown
 have hG0 := setCell_grown wb o D.length (.slice (some ⟨g', 0, none⟩) (c.length + 1) cap')
 have hv : (rwVs (D ++ [c]) G C).set D.length (.slice (some ⟨g', 0, none⟩) (c.length + 1) cap') = rwVs (D ++ [c ++ [t]]) (fun i => if i = D.length then g' else G i) (fun i => if i = D.length then cap' else C i) := by
  apply List.ext_getElem
  ·simp [rwVs]
  ·intro j h1 h2
   simp only [rwVs, List.length_set, List.length_map, List.length_range, hl] at h1
   simp only [rwVs, List.getElem_set, List.getElem_map, List.getElem_range]
   by_cases e : D.length = j
   ·subst e
    rw [if_pos rfl]
    simp [rwV, lnP]
   ·rw [if_neg e]
    have e1 : j ≠ D.length := fun e2 => e e2.symm
    have hj : j < D.length := by omega
    simp only [rwV, if_neg e1, lnP, List.getElem?_append_left hj]
 refine ⟨?_, fun i hi => ?_, fun i hi => ?_, fun i j hi hj hij => ?_⟩
 ·have := (hown.stored D.length (.slice (some ⟨g', 0, none⟩) (c.length + 1) cap')).1
  rw [hv] at this
  rw [hl']
  exact this
 ·rw [hl'] at hi
  by_cases e : i = D.length
  ·subst e
   simp only [↓reduceIte]
   have : (D ++ [c ++ [t]])[D.length]'(by simp) = c ++ [t] := by simp
   rw [this]
   have h2 := ho.kept hG0 (.inr (by show some g' ≠ some o; exact fun e => hog (by injection e with e; exact e.symm)))
   simpa using h2
  ·have hi' : i < D.length := by omega
   simp only [if_neg e, List.getElem_append_left hi']
   have h2 := ha.row i (by rw [hl]; omega)
   rw [List.getElem_append_left hi'] at h2
   exact (h2.kept hg (.inr (by show some (G i) ≠ some (G D.length); exact fun e => h.ap i D.length (by rw [hl]; omega) (by rw [hl]; omega) (by omega) (by injection e)))).kept hG0 (.inr (by show some (G i) ≠ some o; exact fun e => hoff i (by omega) (by injection e with e; exact e.symm)))
 ·rw [hl'] at hi
  show some o ≠ some _
  by_cases e : i = D.length
  ·simp only [if_pos e]; exact fun e => hog (by injection e)
  ·simp only [if_neg e]; exact fun e => hoff i (by omega) (by injection e)
 ·rw [hl'] at hi hj
  by_cases e : i = D.length
  ·by_cases e' : j = D.length
   ·omega
   ·simp only [if_pos e, if_neg e']; exact fun e => hGg j (by omega) e.symm
  ·by_cases e' : j = D.length
   ·simp only [if_neg e, if_pos e']; exact hGg i (by omega)
   ·simp only [if_neg e, if_neg e']; exact h.ap i j (by rw [hl]; omega) (by rw [hl]; omega) hij
end Go.Proofs.YtldfcnlhjjiihaaGreat
