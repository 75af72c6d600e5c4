/-
  Nodes, ways, areas and maps, marked: contracts.
-/
import Derived.Test.YtiagdabikbjbiaaMarkD
namespace Go.Proofs.Ytiagdabikbjbiaa
open Go.RowKit Go.Maps

theorem nd_apart {f : Nat → List Nat} : ∀ n, ((List.range n).flatMap f).Nodup → ∀ i j, i < j → j < n → ∀ x ∈ f i, x ∉ f j
  | 0, _, _, j, _, hj => absurd hj (Nat.not_lt_zero _)
  | n + 1, h, i, j, hij, hj => by
    rw [List.range_succ, List.flatMap_append] at h
    obtain ⟨h1, _, h3⟩ := List.nodup_append.1 h
    by_cases e : j = n
    · subst e
      intro x hx hx'
      exact h3 x (List.mem_flatMap.2 ⟨i, List.mem_range.2 hij, hx⟩) x (by simpa using hx') rfl
    · exact nd_apart n h1 i j hij (by omega)
theorem nd_ne {f : Nat → List Nat} {n : Nat} (h : ((List.range n).flatMap f).Nodup) {i j : Nat} (hi : i < n) (hj : j < n) (hne : i ≠ j) : ∀ x ∈ f i, x ∉ f j := by
  rcases Nat.lt_or_gt_of_ne hne with h1 | h1
  · exact nd_apart n h i j h1 hj
  · exact fun x hx hx' => nd_apart n h j i h1 hi x hx' hx
theorem nd_one {f : Nat → List Nat} {n : Nat} (h : ((List.range n).flatMap f).Nodup) {i : Nat} (hi : i < n) : (f i).Nodup := by
  induction n with
  | zero => exact absurd hi (Nat.not_lt_zero _)
  | succ n ih =>
    rw [List.range_succ, List.flatMap_append] at h
    obtain ⟨h1, h2, _⟩ := List.nodup_append.1 h
    by_cases e : i = n
    · subst e; simpa using h2
    · exact ih h1 (by omega)
theorem Alike.trans {w w1 w2 : World} {bs : List Nat} (h : Alike w w1 bs) (k : Alike w1 w2 bs) : Alike w w2 bs := fun b hb =>
  ⟨(k b hb).1, fun o => by rw [(k b hb).2.1, (h b hb).2.1], fun o => by rw [(k b hb).2.2, (h b hb).2.2]⟩
theorem Onl.cell {bs : List Nat} {w w' : World} (h : Onl bs w w') {b o : Nat} (hb : b < w.heap.size) (hn : b ∉ bs) : w'.cell? ⟨b, o, none⟩ = w.cell? ⟨b, o, none⟩ := World.cell?_of_block (a := ⟨b, o, none⟩) (h.block b hb hn)
theorem Onl.frozen {bs : List Nat} {w w' : World} (h : Onl bs w w') {b o : Nat} (hb : b < w.heap.size) (hn : b ∉ bs) : w'.frozen? ⟨b, o, none⟩ = w.frozen? ⟨b, o, none⟩ := World.frozen?_of_block (a := ⟨b, o, none⟩) (h.block b hb hn)

def mkNode (k : Nat) (d : NodeD) : NodeD := ⟨(k : Int), ((k + 1 : Nat) : Int), ((k + 2 : Nat) : Int), mkTags (k + 3) d.tags⟩
def mkWay (k : Nat) (d : WayD) : WayD := ⟨(k : Int), mkInts (k + 1) d.nodes, mkTags (k + 1 + d.nodes.length) d.tags⟩
def mkArea (k : Nat) (d : AreaD) : AreaD := ⟨(k : Int), mkParts (k + 1) d.parts, mkTags (k + 1 + 2 * d.parts.length) d.tags⟩

/-- With which number the marks of element i begin. -/
def stNode (k : Nat) (l : List NodeD) : Nat → Nat
  | 0 => k
  | i + 1 => stNode k l i + (fun d : NodeD => 3 + 2 * d.tags.length) (l.getD i ⟨0, 0, 0, []⟩)
def mkNodes (k : Nat) (l : List NodeD) : List NodeD := (List.range l.length).map fun i => mkNode (stNode k l i) (l.getD i ⟨0, 0, 0, []⟩)
theorem mkNodes_len (k : Nat) (l : List NodeD) : (mkNodes k l).length = l.length := by simp [mkNodes]
theorem stNode_bd {k : Nat} {l : List NodeD} (hs : ∀ i (h : i < l.length), l[i].tags.length ≤ 1048576) : ∀ j, j ≤ l.length → k ≤ stNode k l j ∧ stNode k l j ≤ k + j * 2097155
  | 0, _ => by simp [stNode]
  | j + 1, hj => by
    have h1 := stNode_bd (k := k) hs j (by omega)
    have h2 := hs j (by omega)
    simp only [stNode, getD_at ⟨0, 0, 0, []⟩ (show j < l.length by omega)]
    omega

/-- With which number the marks of element i begin. -/
def stWay (k : Nat) (l : List WayD) : Nat → Nat
  | 0 => k
  | i + 1 => stWay k l i + (1 + (l.getD i ⟨0, [], []⟩).nodes.length + 2 * (l.getD i ⟨0, [], []⟩).tags.length)
def mkWays (k : Nat) (l : List WayD) : List WayD := (List.range l.length).map fun i => mkWay (stWay k l i) (l.getD i ⟨0, [], []⟩)
theorem mkWays_len (k : Nat) (l : List WayD) : (mkWays k l).length = l.length := by simp [mkWays]
theorem stWay_bd {k : Nat} {l : List WayD} (hs : ∀ i (h : i < l.length), l[i].nodes.length ≤ 1048576 ∧ l[i].tags.length ≤ 1048576) : ∀ j, j ≤ l.length → k ≤ stWay k l j ∧ stWay k l j ≤ k + j * 4194305
  | 0, _ => by simp [stWay]
  | j + 1, hj => by
    have h1 := stWay_bd (k := k) hs j (by omega)
    have h2 := hs j (by omega)
    simp only [stWay, getD_at ⟨0, [], []⟩ (show j < l.length by omega)]
    omega

/-- With which number the marks of element i begin. -/
def stArea (k : Nat) (l : List AreaD) : Nat → Nat
  | 0 => k
  | i + 1 => stArea k l i + (1 + 2 * (l.getD i ⟨0, [], []⟩).parts.length + 2 * (l.getD i ⟨0, [], []⟩).tags.length)
def mkAreas (k : Nat) (l : List AreaD) : List AreaD := (List.range l.length).map fun i => mkArea (stArea k l i) (l.getD i ⟨0, [], []⟩)
theorem mkAreas_len (k : Nat) (l : List AreaD) : (mkAreas k l).length = l.length := by simp [mkAreas]
theorem stArea_bd {k : Nat} {l : List AreaD} (hs : ∀ i (h : i < l.length), l[i].parts.length ≤ 1048576 ∧ l[i].tags.length ≤ 1048576) : ∀ j, j ≤ l.length → k ≤ stArea k l j ∧ stArea k l j ≤ k + j * 4194305
  | 0, _ => by simp [stArea]
  | j + 1, hj => by
    have h1 := stArea_bd (k := k) hs j (by omega)
    have h2 := hs j (by omega)
    simp only [stArea, getD_at ⟨0, [], []⟩ (show j < l.length by omega)]
    omega

end Go.Proofs.Ytiagdabikbjbiaa
