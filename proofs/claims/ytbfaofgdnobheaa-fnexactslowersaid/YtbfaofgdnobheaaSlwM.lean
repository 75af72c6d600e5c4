/-
  Roads that are slower: plain mathematics, and what a store of a Time does to a list of Roads.
-/
import Derived.Test.YtbfaofgdnobheaaGphM
namespace Go.Proofs.Ytbfaofgdnobheaa
open Go.RowKit Go.Maps

/-- A Time times percent divided by 100, rounded up, but at most MaxTime. -/
def slwT (t p : Int) : Int := if (t * p + 99) / 100 ≤ 1000000 then (t * p + 99) / 100 else 1000000
theorem mul_bd {t p : Int} (ht : 1 ≤ t ∧ t ≤ 1000000) (hp : 1 ≤ p ∧ p ≤ 10000) : 1 ≤ t * p ∧ t * p ≤ 10000000000 := by
  have h1 : 1 * 1 ≤ t * p := Int.mul_le_mul ht.1 hp.1 (by omega) (by omega)
  have h2 : t * p ≤ 1000000 * 10000 := Int.mul_le_mul ht.2 hp.2 (by omega) (by omega)
  omega
theorem slwT_bd {t p : Int} (ht : 1 ≤ t ∧ t ≤ 1000000) (hp : 1 ≤ p ∧ p ≤ 10000) : 1 ≤ slwT t p ∧ slwT t p ≤ 1000000 := by
  have := mul_bd ht hp
  unfold slwT
  split <;> omega
theorem slwT_lo {t p : Int} (h : (t * p + 99) / 100 ≤ 1000000) : slwT t p = (t * p + 99) / 100 := if_pos h
theorem slwT_hi {t p : Int} (h : ¬ (t * p + 99) / 100 ≤ 1000000) : slwT t p = 1000000 := if_neg h

def slwD (p : Int) (d : RoadD) : RoadD := { d with time := slwT d.time p }
def slw1 (S : Int → Bool) (p : Int) (d : RoadD) : RoadD := if S d.way = true then slwD p d else d
/-- The first k Roads are slowed. -/
def slL (S : Int → Bool) (p : Int) (l : List RoadD) (k : Nat) : List RoadD := (l.take k).map (slw1 S p) ++ l.drop k
theorem slL_len {S : Int → Bool} {p : Int} {l : List RoadD} {k : Nat} : (slL S p l k).length = l.length := by
  unfold slL
  rw [List.length_append, List.length_map, List.length_take, List.length_drop]
  omega
theorem slL_zero (S : Int → Bool) (p : Int) (l : List RoadD) : slL S p l 0 = l := by simp [slL]
theorem slL_all (S : Int → Bool) (p : Int) (l : List RoadD) : slL S p l l.length = l.map (slw1 S p) := by simp [slL]
theorem slL_lt {S : Int → Bool} {p : Int} {l : List RoadD} {k i : Nat} (h : i < l.length) (hi : i < k) : (slL S p l k)[i]'(by rw [slL_len]; exact h) = slw1 S p l[i] := by
  have h1 : i < ((l.take k).map (slw1 S p)).length := by rw [List.length_map, List.length_take]; omega
  show ((l.take k).map (slw1 S p) ++ l.drop k)[i]'(by have := slL_len (S := S) (p := p) (l := l) (k := k); unfold slL at this; omega) = _
  rw [List.getElem_append_left h1, List.getElem_map, List.getElem_take]
theorem slL_ge {S : Int → Bool} {p : Int} {l : List RoadD} {k i : Nat} (h : i < l.length) (hi : k ≤ i) : (slL S p l k)[i]'(by rw [slL_len]; exact h) = l[i] := by
  have h1 : ((l.take k).map (slw1 S p)).length = k := by rw [List.length_map, List.length_take]; omega
  show ((l.take k).map (slw1 S p) ++ l.drop k)[i]'(by have := slL_len (S := S) (p := p) (l := l) (k := k); unfold slL at this; omega) = _
  rw [List.getElem_append_right (by omega), List.getElem_drop]
  congr 1
  omega
theorem slL_yes {S : Int → Bool} {p : Int} {l : List RoadD} {k : Nat} (h : k < l.length) (hs : S l[k].way = true) : (slL S p l k).set k (slwD p l[k]) = slL S p l (k + 1) := by
  refine List.ext_getElem (by rw [List.length_set, slL_len, slL_len]) fun i h1 h2 => ?_
  rw [List.length_set, slL_len] at h1
  rw [List.getElem_set]
  by_cases e : k = i
  · subst e
    rw [if_pos rfl, slL_lt h (Nat.lt_succ_self _)]
    unfold slw1
    rw [if_pos hs]
  · rw [if_neg e]
    by_cases e2 : i < k
    · rw [slL_lt h1 e2, slL_lt h1 (by omega)]
    · rw [slL_ge h1 (by omega), slL_ge h1 (by omega)]
theorem slL_no {S : Int → Bool} {p : Int} {l : List RoadD} {k : Nat} (h : k < l.length) (hs : S l[k].way = false) : slL S p l k = slL S p l (k + 1) := by
  refine List.ext_getElem (by rw [slL_len, slL_len]) fun i h1 h2 => ?_
  rw [slL_len] at h1
  by_cases e2 : i < k
  · rw [slL_lt h1 e2, slL_lt h1 (by omega)]
  · rw [slL_ge h1 (by omega)]
    by_cases e : i = k
    · subst e
      rw [slL_lt h (Nat.lt_succ_self _)]
      unfold slw1
      rw [hs]
      rfl
    · rw [slL_ge h1 (by omega)]

/-- A Road's Time is stored. -/
theorem road_set {w : World} {b off : Nat} {l : List RoadD} {bs : List Nat} (h : RoadL w (some ⟨b, off, none⟩) l bs) {i : Nat} (hi : i < l.length) {d : RoadD} (e : l[i] = d) {t : Int} (ht : In64 t) :
    RoadL (w.setCell ⟨b, off + i * 6 + 3, none⟩ (.int .i64 t)) (some ⟨b, off, none⟩) (l.set i { d with time := t }) bs := by
  subst e
  rcases h with ⟨rfl, _⟩ | ⟨b', off', f, e, hb, rfl, hx⟩
  · simp at hi
  injection e with e
  injection e with e1 e2
  subst e1 e2
  refine .inr ⟨b, off, f, rfl, by simpa [World.setCell] using hb, by rw [List.length_set], fun j hj => ?_⟩
  rw [List.length_set] at hj
  have oth : ∀ o, o ≠ off + i * 6 + 3 → (w.setCell ⟨b, off + i * 6 + 3, none⟩ (.int .i64 t)).cell? ⟨b, o, none⟩ = w.cell? ⟨b, o, none⟩ := fun o ho => World.cell?_setCell_other _ _ _ _ (fun e => ho (by have := congrArg Addr.off e; simpa using this.symm))
  obtain ⟨g0, g1, g2, g3, g4, g5, g6, c0, c1, c2, c3, c4, c5⟩ := hx j hj
  rw [List.getElem_set]
  by_cases e : i = j
  · subst e
    rw [if_pos rfl]
    exact ⟨g0, g1, g2, g3, ht, g5, g6, by rw [oth _ (by omega)]; exact c0, by rw [oth _ (by omega)]; exact c1, by rw [oth _ (by omega)]; exact c2, World.cell?_setCell_same _ _ _ c3, by rw [oth _ (by omega)]; exact c4, by rw [oth _ (by omega)]; exact c5⟩
  · rw [if_neg e]
    exact ⟨g0, g1, g2, g3, g4, g5, g6, by rw [oth _ (by omega)]; exact c0, by rw [oth _ (by omega)]; exact c1, by rw [oth _ (by omega)]; exact c2, by rw [oth _ (by omega)]; exact c3, by rw [oth _ (by omega)]; exact c4, by rw [oth _ (by omega)]; exact c5⟩

/-- The slower graph. -/
noncomputable def slQ (g : GraphD) (l : List Int) (p : Int) : GraphD :=
  if bP (graphP g) = true ∧ (1 ≤ p ∧ p ≤ 10000) ∧ l.length ≤ 1000 then ⟨g.places, g.roads.map (slw1 (fun x => decide (x ∈ l)) p), g.bans⟩ else ⟨[], [], []⟩
theorem slQ_no {g : GraphD} {l : List Int} {p : Int} (h : ¬ (graphP g ∧ (1 ≤ p ∧ p ≤ 10000) ∧ l.length ≤ 1000)) : slQ g l p = ⟨[], [], []⟩ := by
  unfold slQ
  rw [if_neg fun hh => h ⟨bP_out hh.1, hh.2⟩]
theorem slQ_at {g : GraphD} {l : List Int} {p : Int} (hP : graphP g) (hp : 1 ≤ p ∧ p ≤ 10000) (hl : l.length ≤ 1000) : slQ g l p = ⟨g.places, g.roads.map (slw1 (fun x => decide (x ∈ l)) p), g.bans⟩ := by
  unfold slQ
  rw [if_pos ⟨bP_true hP, hp, hl⟩]
end Go.Proofs.Ytbfaofgdnobheaa
