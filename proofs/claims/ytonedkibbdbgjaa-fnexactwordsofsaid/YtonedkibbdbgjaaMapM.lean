/-
  Maps that can be: plain facts, with no program in them.
-/
import Derived.Test.YtonedkibbdbgjaaTagM
namespace Go.Proofs.Ytonedkibbdbgjaa
open Go.RowKit

/-- What stands ahead of place i: 0 at the beginning. -/
def prevI (I : Nat → Int) : Nat → Int
  | 0 => 0
  | k + 1 => I k
/-- Ids that ascend from 1 on, with Tags that can be. -/
def AscP (n : Nat) (I : Nat → Int) (T : Nat → Bool) : Prop := ∀ i, i < n → prevI I i < I i ∧ I i ≤ 1000000000 ∧ T i = true
theorem AscP.pos {n : Nat} {I : Nat → Int} {T : Nat → Bool} (h : AscP n I T) : ∀ i, i < n → 1 ≤ I i
  | 0, hi => by have := (h 0 hi).1; simp only [prevI] at this; omega
  | k + 1, hi => by
    have h1 := h.pos k (by omega)
    have h2 := (h (k + 1) hi).1
    simp only [prevI] at h2
    omega
theorem AscP.lt {n : Nat} {I : Nat → Int} {T : Nat → Bool} (h : AscP n I T) {i : Nat} : ∀ d, i + (d + 1) < n → I i < I (i + (d + 1))
  | 0, hj => by have := (h (i + 1) hj).1; simpa [prevI] using this
  | d + 1, hj => by
    have h1 := h.lt (i := i) d (by omega)
    have h2 := (h (i + (d + 1) + 1) (by omega)).1
    simp only [prevI] at h2
    have e : i + (d + 1 + 1) = i + (d + 1) + 1 := by omega
    rw [e]; omega
theorem AscP.mono {n : Nat} {I : Nat → Int} {T : Nat → Bool} (h : AscP n I T) {i j : Nat} (hij : i < j) (hj : j < n) : I i < I j := by
  have := h.lt (i := i) (j - i - 1) (by omega)
  rwa [show i + (j - i - 1 + 1) = j by omega] at this
theorem AscP.inj {n : Nat} {I : Nat → Int} {T : Nat → Bool} (h : AscP n I T) {i j : Nat} (hi : i < n) (hj : j < n) (e : I i = I j) : i = j := by
  rcases Nat.lt_trichotomy i j with h1 | h1 | h1
  · have := h.mono h1 hj; omega
  · exact h1
  · have := h.mono h1 hi; omega

def nId (l : List NodeD) (i : Nat) : Int := (l.getD i ⟨0, 0, 0, []⟩).id
noncomputable def nTg (l : List NodeD) (i : Nat) : Bool := tagsB (l.getD i ⟨0, 0, 0, []⟩).tags
def nPk (l : List NodeD) (i : Nat) : Bool := pok (l.getD i ⟨0, 0, 0, []⟩).x (l.getD i ⟨0, 0, 0, []⟩).y
def wId (l : List WayD) (i : Nat) : Int := (l.getD i ⟨0, [], []⟩).id
noncomputable def wTg (l : List WayD) (i : Nat) : Bool := tagsB (l.getD i ⟨0, [], []⟩).tags
def aId (l : List AreaD) (i : Nat) : Int := (l.getD i ⟨0, [], []⟩).id
noncomputable def aTg (l : List AreaD) (i : Nat) : Bool := tagsB (l.getD i ⟨0, [], []⟩).tags
theorem getD_at {α : Type} {l : List α} {i : Nat} (d : α) (h : i < l.length) : l.getD i d = l[i] := by
  rw [List.getD_eq_getElem?_getD, List.getElem?_eq_getElem h]; rfl
theorem nId_at {l : List NodeD} {i : Nat} (h : i < l.length) : nId l i = l[i].id := by unfold nId; rw [getD_at _ h]
theorem nTg_at {l : List NodeD} {i : Nat} (h : i < l.length) : nTg l i = tagsB l[i].tags := by unfold nTg; rw [getD_at _ h]
theorem nPk_at {l : List NodeD} {i : Nat} (h : i < l.length) : nPk l i = pok l[i].x l[i].y := by unfold nPk; rw [getD_at _ h]
theorem wId_at {l : List WayD} {i : Nat} (h : i < l.length) : wId l i = l[i].id := by unfold wId; rw [getD_at _ h]
theorem wTg_at {l : List WayD} {i : Nat} (h : i < l.length) : wTg l i = tagsB l[i].tags := by unfold wTg; rw [getD_at _ h]
theorem aId_at {l : List AreaD} {i : Nat} (h : i < l.length) : aId l i = l[i].id := by unfold aId; rw [getD_at _ h]
theorem aTg_at {l : List AreaD} {i : Nat} (h : i < l.length) : aTg l i = tagsB l[i].tags := by unfold aTg; rw [getD_at _ h]

/-- There is one with that Id. -/
def HasI (n : Nat) (I : Nat → Int) (id : Int) : Prop := ∃ i, i < n ∧ I i = id
/-- A way's Nodes: 2 to MaxRow, each of a node, no two beside each other the same. -/
def WayP (n : Nat) (I : Nat → Int) (ns : List Int) : Prop :=
  2 ≤ ns.length ∧ ns.length ≤ 2000 ∧ ∀ j (h : j < ns.length), HasI n I ns[j] ∧ (0 < j → ns[j] ≠ ns[j - 1]'(by omega))
/-- An area's Parts: 1 to MaxTags, each of a way, no two of one. -/
def AreaP (n : Nat) (I : Nat → Int) (ps : List PartD) : Prop :=
  1 ≤ ps.length ∧ ps.length ≤ 30 ∧ ∀ j (h : j < ps.length), HasI n I ps[j].way ∧ ∀ k (hk : k < j), (ps[k]'(by omega)).way ≠ ps[j].way

structure MapOkP (m : MapD) : Prop where
  n1 : m.nodes.length ≤ 5000
  n2 : m.ways.length ≤ 1000
  n3 : m.areas.length ≤ 300
  an : AscP m.nodes.length (nId m.nodes) (nTg m.nodes)
  aw : AscP m.ways.length (wId m.ways) (wTg m.ways)
  aa : AscP m.areas.length (aId m.areas) (aTg m.areas)
  pl : ∀ i, i < m.nodes.length → nPk m.nodes i = true
  wy : ∀ i (h : i < m.ways.length), WayP m.nodes.length (nId m.nodes) m.ways[i].nodes
  ar : ∀ i (h : i < m.areas.length), AreaP m.ways.length (wId m.ways) m.areas[i].parts
noncomputable def mapB (m : MapD) : Bool := bP (MapOkP m)

/-- A number as a key. -/
abbrev kI (x : Int) : Lit := .int .i64 x
end Go.Proofs.Ytonedkibbdbgjaa
