/-
  append of numbers to a row of the call's own, as one step of a region; parts of a row.
-/
import Derived.Test.YtonedkibbdbgjaaOwnB
import Derived.Test.YtonedkibbdbgjaaFlat
import Derived.Deep.AppendLies
namespace Go.Proofs.Ytonedkibbdbgjaa
open Go.RowKit Go.Maps

theorem intsV_len (l : List Int) : (intsV l).length = l.length := by simp [intsV]
/-- A row of the call's own whose place is known. -/
theorem own_at {base : Nat} {w : World} {g n cap : Nat} {l : List Int} (h : OwnI base w (.slice (some ⟨g, 0, none⟩) n cap) l) : base ≤ g ∧ g < w.heap.size ∧ n = l.length := by
  obtain ⟨_, h2⟩ := h
  rcases h2 with ⟨e, _⟩ | ⟨g', cap', cur, e, hb, hc, _⟩
  · cases e
  · injection e with e1 e2 e3
    injection e1 with e1
    injection e1 with e1
    subst e1
    refine ⟨hb, ?_, e2⟩
    rcases Nat.lt_or_ge g w.heap.size with h | h
    · exact h
    · rw [Array.getElem?_eq_none h] at hc; cases hc
/-- append of numbers to a row of the call's own. -/
theorem app_ints {w : World} {o : Oper} {a : Act} {K : Act → World → Prop} {Q : Exit → Act → World → Prop} (s x : Operand)
    (ho : o.op = .call { callee := .builtin .append, args := #[s, x], argTypes := #[33, 33] }) (base g0 n cap0 : Nat) (l : List Int)
    (hs : a.eval s = .slice (some ⟨g0, 0, none⟩) n cap0) (hown : OwnI base w (.slice (some ⟨g0, 0, none⟩) n cap0) l) (ad : Option Addr) (m c : Nat) (l2 : List Int) (hx : a.eval x = .slice ad m c) (bs : List Nat) (hT : Ints w ad l2 bs) (hl2 : l2.length = m)
    (r : Nat) (hr : n + m = r) (hm : r ≤ 1048576) (hbase : base ≤ w.heap.size)
    (h : ∀ g cap w', OwnI base w' (.slice (some ⟨g, 0, none⟩) r cap) (l ++ l2) → w.grownBy w' (some g0) → K (a.put o.dst (.slice (some ⟨g, 0, none⟩) r cap)) w') : o.wp Try.prog a w K Q := by
  obtain ⟨_, hg0, hn⟩ := own_at hown
  subst hn
  subst hr
  obtain ⟨i, hi, hz, hsz, hby⟩ := info_parts infoI
  by_cases h0 : m = 0
  · subst h0
    obtain rfl : l2 = [] := List.length_eq_zero_iff.1 hl2
    have hrun := run_append_zero (P := Try.prog) (w := w) base 33 o.type 2 i 1 Try.underlying33 hi _ l.length _ hown ad c
    unfold Oper.wp
    simp [execOp, ho, resolve, invoke, builtin, hs, hx, hrun, Result.andThen]
    have := h g0 cap0 w (by rw [List.append_nil]; exact hown) (World.grownBy.refl _ _)
    have this : K (a.put o.dst (.slice (some ⟨g0, 0, none⟩) l.length cap0)) w := by simpa using this
    exact this
  · obtain ⟨b, off, f, rfl, hb, hxx⟩ := hT.out (k := 0) (by omega)
    refine wp_append_lies w s x 33 ho base 2 i (.int .i64 0) 1 8 Try.underlying33 hi hz hsz hby rfl (by decide) _ l.length (intsV l) hs hown ⟨b, off, none⟩ m c (intsV l2) hx (by rw [intsV_len, hl2, Nat.mul_one]) (fun j u hu => ?_) (fun u hu => ?_) (by omega) (by unfold maxLen; omega) (by omega) hbase _ rfl ?_
    · rw [addr_add]
      unfold intsV at hu
      rw [List.getElem?_map] at hu
      obtain ⟨y, hy, rfl⟩ := Option.map_eq_some_iff.1 hu
      obtain ⟨hj, rfl⟩ := List.getElem?_eq_some_iff.1 hy
      have := (hxx j hj).2.2
      rwa [Nat.mul_one] at this
    · obtain ⟨y, _, rfl⟩ := List.mem_map.1 hu
      rfl
    · intro g cap w' hown' hgrow _ _
      refine h g cap w' ?_ hgrow
      unfold OwnI
      rw [List.length_append, hl2]
      have e : intsV (l ++ l2) = intsV l ++ intsV l2 := List.map_append
      rw [e]
      exact hown'
/-- The beginning of a row. -/
theorem ints_take {w : World} {a : Option Addr} {l : List Int} {bs : List Nat} (h : Ints w a l bs) (k : Nat) : ∃ bs', Ints w a (l.take k) bs' := by
  rcases h with ⟨rfl, rfl⟩ | ⟨b, off, f, rfl, hb, rfl, hx⟩
  · exact ⟨[], .inl ⟨by simp, rfl⟩⟩
  · exact ⟨_, .inr ⟨b, off, f, rfl, hb, rfl, fun i hi => by
      have hi' : i < l.length := by rw [List.length_take] at hi; omega
      rw [List.getElem_take]; exact hx i hi'⟩⟩
/-- The end of a row. -/
theorem ints_drop {w : World} {b off : Nat} {l : List Int} {bs : List Nat} (h : Ints w (some ⟨b, off, none⟩) l bs) (k : Nat) : ∃ bs', Ints w (some ⟨b, off + k, none⟩) (l.drop k) bs' := by
  rcases h with ⟨rfl, rfl⟩ | ⟨b', off', f, e, hb, rfl, hx⟩
  · exact ⟨[], .inl ⟨by simp, rfl⟩⟩
  · injection e with e
    injection e with e1 e2 e3
    subst e1; subst e2
    exact ⟨_, .inr ⟨b, off + k, fun i => f (k + i), rfl, hb, rfl, fun i hi => by
      have hi' : k + i < l.length := by rw [List.length_drop] at hi; omega
      rw [List.getElem_drop]
      have := hx (k + i) hi'
      rw [Nat.mul_one] at this ⊢
      rw [Nat.add_assoc]; exact this⟩⟩
/-- One number in a block of its own. -/
theorem ints_lit1 {w : World} {B : Nat} {x : Int} (h : w.cell? ⟨B, 0, none⟩ = some (.int .i64 x)) (hx : In64 x) : Ints w (some ⟨B, 0, none⟩) [x] [B] :=
  .inr ⟨B, 0, fun _ => [], rfl, World.block_lt_of_cell? w _ h, by simp, fun i hi => by
    obtain rfl : i = 0 := by simpa using hi
    exact ⟨rfl, hx, h⟩⟩
end Go.Proofs.Ytonedkibbdbgjaa
