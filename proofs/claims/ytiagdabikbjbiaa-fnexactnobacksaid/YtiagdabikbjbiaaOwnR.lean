/-
  Rows of records that the call has built by append: how they are read.
-/
import Derived.Test.YtiagdabikbjbiaaChartC
import Derived.Laws.OwnMore
import Derived.Laws.AppendOwnNone
import Derived.Deep.Slices
namespace Go.Proofs.Ytiagdabikbjbiaa
open Go.RowKit Go.Maps

/-- The cells of the first k records. -/
def recs (R : Nat → List Value) (k : Nat) : List Value := (List.range k).flatMap R
theorem recs_succ (R : Nat → List Value) (k : Nat) : recs R (k + 1) = recs R k ++ R k := by simp [recs, List.range_succ]
theorem recs_len {R : Nat → List Value} {q : Nat} (h : ∀ i, (R i).length = q) : ∀ k, (recs R k).length = k * q
  | 0 => by simp [recs]
  | k + 1 => by rw [recs_succ, List.length_append, recs_len h k, h k, Nat.add_mul, Nat.one_mul]
theorem recs_at {R : Nat → List Value} {q : Nat} (h : ∀ i, (R i).length = q) {i j : Nat} (hj : j < q) : ∀ k, i < k → (recs R k)[i * q + j]? = (R i)[j]?
  | 0, hk => absurd hk (Nat.not_lt_zero _)
  | k + 1, hk => by
    rw [recs_succ]
    by_cases e : i = k
    · subst e
      rw [List.getElem?_append_right (by rw [recs_len h]; omega), recs_len h]
      congr 1; omega
    · have h1 : i + 1 ≤ k := by omega
      have h2 : i * q + q ≤ k * q := by have := Nat.mul_le_mul_right q h1; rw [Nat.add_mul, Nat.one_mul] at this; exact this
      rw [List.getElem?_append_left (by rw [recs_len h]; omega)]
      exact recs_at h hj k (by omega)

theorem own_kept {w w' : World} {base : Nat} {e : TypeId} {q n : Nat} {v : Value} {xs : List Value} {C : Nat} (h : w.ownsRow base e q v n xs) (hg : w.grownBy w' (some C)) (hC : C < base) : w'.ownsRow base e q v n xs := by
  refine h.kept hg ?_
  by_cases hv : v.ownBlock = none
  · exact .inl hv
  · refine .inr fun e => ?_
    have := (h.lt C e).1
    omega
theorem own_bel {w w' : World} {base : Nat} {e : TypeId} {q n : Nat} {v : Value} {xs : List Value} (h : w.ownsRow base e q v n xs) (hb : Bel w w') : w'.ownsRow base e q v n xs := by
  obtain ⟨h1, h2⟩ := h
  refine ⟨h1, ?_⟩
  rcases h2 with h2 | ⟨g, cap, cur, e1, e2, e3, e4⟩
  · exact .inl h2
  · have hlt : g < w.heap.size := by
      rcases Nat.lt_or_ge g w.heap.size with h | h
      · exact h
      · rw [Array.getElem?_eq_none h] at e3; cases e3
    exact .inr ⟨g, cap, cur, e1, e2, by rw [hb.out.block g hlt]; exact e3, e4⟩

/-- A row of the call's own as a slice that is read. -/
theorem own_sl {α : Type} {q : Nat} {E : Elem α} {w : World} {base : Nat} {e : TypeId} {v : Value} {l : List α} {n : Nat} {R : Nat → List Value} (hl : l.length = n) (hR : ∀ i, (R i).length = q) (h : w.ownsRow base e q v n (recs R n)) (f : Nat → List Nat)
    (hE : ∀ i (hi : i < l.length) (b o : Nat), (∀ j (hj : j < (R i).length), w.cell? ⟨b, o + j, none⟩ = some (R i)[j]) → E w b o l[i] (f i)) :
    ∃ a c bs, v = .slice a n c ∧ Sl q E w a l bs ∧ ∀ x ∈ bs, base ≤ x ∨ ∃ i, i < n ∧ x ∈ f i := by
  by_cases h0 : n = 0
  · subst h0
    have : l = [] := List.length_eq_zero_iff.1 hl
    subst this
    rcases h.2 with ⟨rfl, _⟩ | ⟨g, cap, cur, rfl, _⟩
    · exact ⟨_, _, [], rfl, Sl.nil, fun x hx => nomatch hx⟩
    · exact ⟨_, _, [], rfl, Sl.nil, fun x hx => nomatch hx⟩
  · rcases h.2 with ⟨_, hz⟩ | ⟨g, cap, cur, rfl, hg, e3, _⟩
    · exact absurd hz h0
    · have hlt : g < w.heap.size := by
        rcases Nat.lt_or_ge g w.heap.size with h | h
        · exact h
        · rw [Array.getElem?_eq_none h] at e3; cases e3
      refine ⟨_, _, g :: (List.range l.length).flatMap f, rfl, .inr ⟨g, 0, f, rfl, hlt, rfl, fun i hi => hE i hi _ _ fun j hj => ?_⟩, fun x hx => ?_⟩
      · have hj' : j < q := by rw [hR] at hj; exact hj
        have hin : i < n := by omega
        have h2 : i * q + q ≤ n * q := by have := Nat.mul_le_mul_right q (show i + 1 ≤ n by omega); rw [Nat.add_mul, Nat.one_mul] at this; exact this
        rw [Nat.zero_add, h.cellAt (i * q + j) (by omega), recs_at hR hj' n hin, List.getElem?_eq_getElem hj]
      · rcases List.mem_cons.1 hx with rfl | hx
        · exact .inl hg
        · obtain ⟨i, hi, hx⟩ := List.mem_flatMap.1 hx
          exact .inr ⟨i, by rw [← hl]; exact List.mem_range.1 hi, hx⟩

/-- The slices that nodes, ways and areas lead to, named. -/
theorem name_nodes {w : World} {a : Option Addr} {l : List NodeD} {bs : List Nat} (h : Nodes w a l bs) :
    ∃ (A : Nat → Option Addr) (C : Nat → Nat) (f : Nat → List Nat), (∀ i, i < l.length → ∀ x ∈ f i, x ∈ bs) ∧ ∀ i (hi : i < l.length), ∃ b off, a = some ⟨b, off, none⟩ ∧ b < w.heap.size ∧ In64 l[i].id ∧ In64 l[i].x ∧ In64 l[i].y ∧
      w.cell? ⟨b, off + i * 4, none⟩ = some (.int .i64 l[i].id) ∧ w.cell? ⟨b, off + i * 4 + 1, none⟩ = some (.int .i64 l[i].x) ∧ w.cell? ⟨b, off + i * 4 + 2, none⟩ = some (.int .i64 l[i].y) ∧
      l[i].tags.length ≤ maxLen ∧ w.cell? ⟨b, off + i * 4 + 3, none⟩ = some (.slice (A i) l[i].tags.length (C i)) ∧ Tags w (A i) l[i].tags (f i) := by
  rcases h with ⟨rfl, _⟩ | ⟨b, off, f, ha, hb, rfl, hx⟩
  · exact ⟨fun _ => none, fun _ => 0, fun _ => [], fun i hi => absurd hi (Nat.not_lt_zero _), fun i hi => absurd hi (Nat.not_lt_zero _)⟩
  · have key : ∀ i, i < l.length → ∃ p : Option Addr × Nat, ∃ hi : i < l.length, l[i].tags.length ≤ maxLen ∧ w.cell? ⟨b, off + i * 4 + 3, none⟩ = some (.slice p.1 l[i].tags.length p.2) ∧ Tags w p.1 l[i].tags (f i) := fun i hi => by
      obtain ⟨_, _, _, _, _, _, a', c', h1, h2, h3⟩ := hx i hi
      exact ⟨(a', c'), hi, h1, h2, h3⟩
    obtain ⟨p, hp⟩ := Go.Deep.choose_lt key
    refine ⟨fun i => (p i).1, fun i => (p i).2, f, fun i hi x hxi => List.mem_cons_of_mem _ (List.mem_flatMap.2 ⟨i, List.mem_range.2 hi, hxi⟩), fun i hi => ?_⟩
    obtain ⟨i1, i2, i3, c0, c1, c2, _⟩ := hx i hi
    obtain ⟨_, h1, h2, h3⟩ := hp i hi
    exact ⟨b, off, ha, hb, i1, i2, i3, c0, c1, c2, h1, h2, h3⟩
theorem name_ways {w : World} {a : Option Addr} {l : List WayD} {bs : List Nat} (h : Ways w a l bs) :
    ∃ (A : Nat → Option Addr) (C : Nat → Nat) (A' : Nat → Option Addr) (C' : Nat → Nat) (f1 f2 : Nat → List Nat), (∀ i, i < l.length → ∀ x ∈ f1 i ++ f2 i, x ∈ bs) ∧ ∀ i (hi : i < l.length), ∃ b off, a = some ⟨b, off, none⟩ ∧ b < w.heap.size ∧ In64 l[i].id ∧
      w.cell? ⟨b, off + i * 3, none⟩ = some (.int .i64 l[i].id) ∧ l[i].nodes.length ≤ maxLen ∧ l[i].tags.length ≤ maxLen ∧ w.cell? ⟨b, off + i * 3 + 1, none⟩ = some (.slice (A i) l[i].nodes.length (C i)) ∧ Ints w (A i) l[i].nodes (f1 i) ∧
      w.cell? ⟨b, off + i * 3 + 2, none⟩ = some (.slice (A' i) l[i].tags.length (C' i)) ∧ Tags w (A' i) l[i].tags (f2 i) := by
  rcases h with ⟨rfl, _⟩ | ⟨b, off, f, ha, hb, rfl, hx⟩
  · exact ⟨fun _ => none, fun _ => 0, fun _ => none, fun _ => 0, fun _ => [], fun _ => [], fun i hi => absurd hi (Nat.not_lt_zero _), fun i hi => absurd hi (Nat.not_lt_zero _)⟩
  · have key : ∀ i, i < l.length → ∃ p : (Option Addr × Nat) × (Option Addr × Nat) × (List Nat × List Nat), ∃ hi : i < l.length, f i = p.2.2.1 ++ p.2.2.2 ∧ l[i].nodes.length ≤ maxLen ∧ l[i].tags.length ≤ maxLen ∧ w.cell? ⟨b, off + i * 3 + 1, none⟩ = some (.slice p.1.1 l[i].nodes.length p.1.2) ∧ Ints w p.1.1 l[i].nodes p.2.2.1 ∧
        w.cell? ⟨b, off + i * 3 + 2, none⟩ = some (.slice p.2.1.1 l[i].tags.length p.2.1.2) ∧ Tags w p.2.1.1 l[i].tags p.2.2.2 := fun i hi => by
      obtain ⟨_, _, a', c', a'', c'', b1, b2, h0, h1, h2, h3, h4, h5, h6⟩ := hx i hi
      exact ⟨((a', c'), (a'', c''), (b1, b2)), hi, h0, h1, h2, h3, h4, h5, h6⟩
    obtain ⟨p, hp⟩ := Go.Deep.choose_lt key
    refine ⟨fun i => (p i).1.1, fun i => (p i).1.2, fun i => (p i).2.1.1, fun i => (p i).2.1.2, fun i => (p i).2.2.1, fun i => (p i).2.2.2, fun i hi x hxi => List.mem_cons_of_mem _ (List.mem_flatMap.2 ⟨i, List.mem_range.2 hi, ?_⟩), fun i hi => ?_⟩
    · obtain ⟨_, h0, _⟩ := hp i hi
      rw [h0]; exact hxi
    · obtain ⟨i1, c0, _⟩ := hx i hi
      obtain ⟨_, _, h1, h2, h3, h4, h5, h6⟩ := hp i hi
      exact ⟨b, off, ha, hb, i1, c0, h1, h2, h3, h4, h5, h6⟩

theorem name_areas {w : World} {a : Option Addr} {l : List AreaD} {bs : List Nat} (h : Areas w a l bs) :
    ∃ (A : Nat → Option Addr) (C : Nat → Nat) (A' : Nat → Option Addr) (C' : Nat → Nat) (f1 f2 : Nat → List Nat), (∀ i, i < l.length → ∀ x ∈ f1 i ++ f2 i, x ∈ bs) ∧ ∀ i (hi : i < l.length), ∃ b off, a = some ⟨b, off, none⟩ ∧ b < w.heap.size ∧ In64 l[i].id ∧
      w.cell? ⟨b, off + i * 3, none⟩ = some (.int .i64 l[i].id) ∧ l[i].parts.length ≤ maxLen ∧ l[i].tags.length ≤ maxLen ∧ w.cell? ⟨b, off + i * 3 + 1, none⟩ = some (.slice (A i) l[i].parts.length (C i)) ∧ Parts w (A i) l[i].parts (f1 i) ∧
      w.cell? ⟨b, off + i * 3 + 2, none⟩ = some (.slice (A' i) l[i].tags.length (C' i)) ∧ Tags w (A' i) l[i].tags (f2 i) := by
  rcases h with ⟨rfl, _⟩ | ⟨b, off, f, ha, hb, rfl, hx⟩
  · exact ⟨fun _ => none, fun _ => 0, fun _ => none, fun _ => 0, fun _ => [], fun _ => [], fun i hi => absurd hi (Nat.not_lt_zero _), fun i hi => absurd hi (Nat.not_lt_zero _)⟩
  · have key : ∀ i, i < l.length → ∃ p : (Option Addr × Nat) × (Option Addr × Nat) × (List Nat × List Nat), ∃ hi : i < l.length, f i = p.2.2.1 ++ p.2.2.2 ∧ l[i].parts.length ≤ maxLen ∧ l[i].tags.length ≤ maxLen ∧ w.cell? ⟨b, off + i * 3 + 1, none⟩ = some (.slice p.1.1 l[i].parts.length p.1.2) ∧ Parts w p.1.1 l[i].parts p.2.2.1 ∧
        w.cell? ⟨b, off + i * 3 + 2, none⟩ = some (.slice p.2.1.1 l[i].tags.length p.2.1.2) ∧ Tags w p.2.1.1 l[i].tags p.2.2.2 := fun i hi => by
      obtain ⟨_, _, a', c', a'', c'', b1, b2, h0, h1, h2, h3, h4, h5, h6⟩ := hx i hi
      exact ⟨((a', c'), (a'', c''), (b1, b2)), hi, h0, h1, h2, h3, h4, h5, h6⟩
    obtain ⟨p, hp⟩ := Go.Deep.choose_lt key
    refine ⟨fun i => (p i).1.1, fun i => (p i).1.2, fun i => (p i).2.1.1, fun i => (p i).2.1.2, fun i => (p i).2.2.1, fun i => (p i).2.2.2, fun i hi x hxi => List.mem_cons_of_mem _ (List.mem_flatMap.2 ⟨i, List.mem_range.2 hi, ?_⟩), fun i hi => ?_⟩
    · obtain ⟨_, h0, _⟩ := hp i hi
      rw [h0]; exact hxi
    · obtain ⟨i1, c0, _⟩ := hx i hi
      obtain ⟨_, _, h1, h2, h3, h4, h5, h6⟩ := hp i hi
      exact ⟨b, off, ha, hb, i1, c0, h1, h2, h3, h4, h5, h6⟩

end Go.Proofs.Ytiagdabikbjbiaa
