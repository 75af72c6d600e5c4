/-
  Rows of numbers of a call's own: how they are built and read.
-/
import Derived.Test.YtonedkibbdbgjaaFlat
namespace Go.Proofs.Ytonedkibbdbgjaa
open Go.RowKit Go.Maps

def intsV (l : List Int) : List Value := l.map (.int .i64)
/-- A row of numbers of the call's own. -/
def OwnI (base : Nat) (w : World) (v : Value) (l : List Int) : Prop := w.ownsRow base 2 1 v l.length (intsV l)
theorem own_base {base base' : Nat} {w : World} {v : Value} {l : List Int} (h : OwnI base w v l) (hb : base' ≤ base) : OwnI base' w v l := by
  obtain ⟨h1, h2⟩ := h
  refine ⟨h1, ?_⟩
  rcases h2 with h2 | ⟨g, cap, cur, e1, e2, e3⟩
  · exact .inl h2
  · exact .inr ⟨g, cap, cur, e1, Nat.le_trans hb e2, e3⟩
theorem own_add {base : Nat} {w : World} {v : Value} {l : List Int} {x : Int} (h : w.ownsRow base 2 1 v (l.length + 1) (intsV l ++ [.int .i64 x])) : OwnI base w v (l ++ [x]) := by
  unfold OwnI intsV
  rw [List.length_append, List.map_append]
  exact h
theorem infoI : (Try.prog.info? 2).map (fun i => (i.zero, i.size, i.bytes)) = some (some (.int .i64 0), 1, 8) := by kernel_rfl
theorem own_ints {base : Nat} {w : World} {v : Value} {l : List Int} (h : OwnI base w v l) (hi : ∀ y ∈ l, In64 y) :
    ∃ a c bs, v = .slice a l.length c ∧ Ints w a l bs ∧ (∀ x ∈ bs, base ≤ x ∧ x < w.heap.size) ∧ ∀ x ∈ bs, ∀ j, w.frozen? ⟨x, j, none⟩ = false := by
  obtain ⟨a, c, rfl⟩ := own_shape h
  rcases Nat.eq_zero_or_pos l.length with z | z
  · obtain rfl : l = [] := List.length_eq_zero_iff.1 z
    refine ⟨a, c, [], rfl, Sl.nil, ?_, ?_⟩ <;> intro x hx <;> simp at hx
  · rcases h.2 with ⟨_, hz⟩ | ⟨g, cap, cur, e, hg, e3, _⟩
    · omega
    · cases e
      have hlt : g < w.heap.size := by
        rcases Nat.lt_or_ge g w.heap.size with h | h
        · exact h
        · rw [Array.getElem?_eq_none h] at e3; cases e3
      have hm : ∀ x ∈ g :: (List.range l.length).flatMap (fun _ => ([] : List Nat)), x = g := fun x hx => by
        rcases List.mem_cons.1 hx with h | h
        · exact h
        · obtain ⟨_, _, h⟩ := List.mem_flatMap.1 h
          exact nomatch h
      refine ⟨_, _, g :: (List.range l.length).flatMap (fun _ => ([] : List Nat)), rfl, .inr ⟨g, 0, fun _ => [], rfl, hlt, rfl, fun i hil => ⟨rfl, hi _ (List.getElem_mem hil), ?_⟩⟩, fun x hx => by rw [hm x hx]; exact ⟨hg, hlt⟩, fun x hx j => by rw [hm x hx]; simp [World.frozen?, e3]⟩
      rw [Nat.zero_add, Nat.mul_one, h.cellAt i (by omega)]
      simp [intsV, hil]
/-- A row of numbers as an answer: it reads as this list, in blocks of the call's own. -/
def OutI (base : Nat) (w : World) (v : Value) (l : List Int) : Prop :=
  ∃ a c bs, v = .slice a l.length c ∧ Ints w a l bs ∧ (∀ x ∈ bs, base ≤ x ∧ x < w.heap.size) ∧ ∀ x ∈ bs, ∀ j, w.frozen? ⟨x, j, none⟩ = false
end Go.Proofs.Ytonedkibbdbgjaa
