/-
  What lies in a box: the model in Lean, plain facts.
-/
import Derived.Test.YtmmapkpieimibaaGreatPtM
namespace Go.Proofs.YtmmapkpieimibaaGreat
open Go.RowKit Go.Maps

structure BoxD where
  a : Int
  b : Int
  c : Int
  d : Int
def ptB (q : BoxD) (x y : Int) : Bool := decide (q.a ≤ x) && (decide (x ≤ q.c) && (decide (q.b ≤ y) && decide (y ≤ q.d)))
def wInB (m : MapD) (q : BoxD) (e : WayD) : Bool := (rowTo m.nodes e.nodes e.nodes.length).any fun p => ptB q p.x p.y
/-- The Ids of the first k ways that have a node in the box. -/
def wSetTo (m : MapD) (q : BoxD) (k : Nat) (y : Int) : Prop := ∃ e ∈ m.ways.take k, wInB m q e = true ∧ e.id = y
def nIn (q : BoxD) (e : NodeD) : Prop := e.tags.length ≠ 0 ∧ ptB q e.x e.y = true
/-- The Ids of the first k nodes with tags in the box. -/
def nSetTo (m : MapD) (q : BoxD) (k : Nat) (y : Int) : Prop := ∃ e ∈ m.nodes.take k, nIn q e ∧ e.id = y
/-- The nodes that the first k ways need, and those with tags in the box. -/
def aSetTo (m : MapD) (q : BoxD) (k : Nat) (y : Int) : Prop := (∃ e ∈ m.ways.take k, wSetTo m q m.ways.length e.id ∧ y ∈ e.nodes) ∨ nSetTo m q m.nodes.length y
theorem wSet_zero (m : MapD) (q : BoxD) : wSetTo m q 0 = fun _ => False := by funext y; simp [wSetTo]
theorem nSet_zero (m : MapD) (q : BoxD) : nSetTo m q 0 = fun _ => False := by funext y; simp [nSetTo]
theorem take_ex {α : Type} {l : List α} {k : Nat} (hk : k < l.length) (p : α → Prop) : (∃ e ∈ l.take (k + 1), p e) ↔ (p l[k] ∨ ∃ e ∈ l.take k, p e) := by
  rw [List.take_succ_eq_append_getElem hk]
  constructor
  · rintro ⟨e, he, hp⟩
    rcases List.mem_append.1 he with he | he
    · exact .inr ⟨e, he, hp⟩
    · rw [List.mem_singleton.1 he] at hp; exact .inl hp
  · rintro (hp | ⟨e, he, hp⟩)
    · exact ⟨_, List.mem_append.2 (.inr (List.mem_singleton.2 rfl)), hp⟩
    · exact ⟨e, List.mem_append.2 (.inl he), hp⟩
theorem wSet_yes {m : MapD} {q : BoxD} {k : Nat} (hk : k < m.ways.length) (h : wInB m q m.ways[k] = true) : (fun y => y ∈ [m.ways[k].id] ∨ wSetTo m q k y) = wSetTo m q (k + 1) := by
  funext y
  unfold wSetTo
  rw [take_ex hk, h]
  exact propext (or_congr ⟨fun h => ⟨rfl, (List.mem_singleton.1 h).symm⟩, fun h => List.mem_singleton.2 h.2.symm⟩ Iff.rfl)
theorem wSet_no {m : MapD} {q : BoxD} {k : Nat} (hk : k < m.ways.length) (h : wInB m q m.ways[k] = false) : wSetTo m q (k + 1) = wSetTo m q k := by
  funext y
  unfold wSetTo
  rw [take_ex hk, h]
  simp
theorem nSet_yes {m : MapD} {q : BoxD} {k : Nat} (hk : k < m.nodes.length) (h : nIn q m.nodes[k]) : (fun y => y ∈ [m.nodes[k].id] ∨ nSetTo m q k y) = nSetTo m q (k + 1) := by
  funext y
  unfold nSetTo
  rw [take_ex hk]
  exact propext (or_congr ⟨fun k => ⟨h, (List.mem_singleton.1 k).symm⟩, fun h => List.mem_singleton.2 h.2.symm⟩ Iff.rfl)
theorem nSet_no {m : MapD} {q : BoxD} {k : Nat} (hk : k < m.nodes.length) (h : ¬ nIn q m.nodes[k]) : nSetTo m q (k + 1) = nSetTo m q k := by
  funext y
  unfold nSetTo
  rw [take_ex hk]
  simp [h]
theorem aSet_zero (m : MapD) (q : BoxD) : aSetTo m q 0 = nSetTo m q m.nodes.length := by funext y; simp [aSetTo]
theorem aSet_yes {m : MapD} {q : BoxD} {k : Nat} (hk : k < m.ways.length) (h : wSetTo m q m.ways.length m.ways[k].id) : (fun y => y ∈ m.ways[k].nodes ∨ aSetTo m q k y) = aSetTo m q (k + 1) := by
  funext y
  unfold aSetTo
  rw [take_ex hk]
  simp [h, or_assoc]
theorem aSet_no {m : MapD} {q : BoxD} {k : Nat} (hk : k < m.ways.length) (h : ¬ wSetTo m q m.ways.length m.ways[k].id) : aSetTo m q (k + 1) = aSetTo m q k := by
  funext y
  unfold aSetTo
  rw [take_ex hk]
  simp [h]
def cntW (l : List WayD) : Nat → Nat
  | 0 => 0
  | k + 1 => cntW l k + (l.getD k ⟨0, [], []⟩).nodes.length
theorem cntW_le {l : List WayD} (h : ∀ i (h : i < l.length), l[i].nodes.length ≤ 2000) : ∀ k, k ≤ l.length → cntW l k ≤ k * 2000
  | 0, _ => by simp [cntW]
  | k + 1, hk => by
    have h1 := cntW_le h k (by omega)
    have h2 := h k (by omega)
    simp only [cntW, getD_at ⟨0, [], []⟩ (show k < l.length by omega)]
    omega

noncomputable def keptN (m : MapD) (q : BoxD) (d : NodeD) : Bool := bP (aSetTo m q m.ways.length d.id)
noncomputable def keptW (m : MapD) (q : BoxD) (d : WayD) : Bool := bP (wSetTo m q m.ways.length d.id)
noncomputable def keptA (m : MapD) (q : BoxD) (d : AreaD) : Bool := bP (∀ p ∈ d.parts, wSetTo m q m.ways.length p.way)
noncomputable def cropQ (m : MapD) (q : BoxD) : MapD := if mapB m = true then ⟨m.nodes.filter (keptN m q), m.ways.filter (keptW m q), m.areas.filter (keptA m q)⟩ else ⟨[], [], []⟩
theorem filt_yes {α : Type} {p : α → Bool} {l : List α} {k : Nat} (hk : k < l.length) (h : p l[k] = true) : (l.take (k + 1)).filter p = (l.take k).filter p ++ [l[k]] := by
  rw [List.take_succ_eq_append_getElem hk, List.filter_append, List.filter_cons_of_pos h]
  rfl
theorem filt_no {α : Type} {p : α → Bool} {l : List α} {k : Nat} (hk : k < l.length) (h : p l[k] = false) : (l.take (k + 1)).filter p = (l.take k).filter p := by
  rw [List.take_succ_eq_append_getElem hk, List.filter_append, List.filter_cons_of_neg (by rw [h]; exact Bool.false_ne_true)]
  simp
theorem filt_len {α : Type} (p : α → Bool) (l : List α) (k : Nat) : ((l.take k).filter p).length ≤ k :=
  Nat.le_trans (List.length_filter_le _ _) (by rw [List.length_take]; omega)
end Go.Proofs.YtmmapkpieimibaaGreat
