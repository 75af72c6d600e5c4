/-
  append of numbers to a row of the call's own, as one step of a region; parts of a row.
  slices.Sort at int64, by the shelf: a row of the call's own, put in order.
-/
import Derived.Test.YtpbpnkklnbmkeaaOwnB
import Derived.Test.YtpbpnkklnbmkeaaFlat
import Derived.Deep.AppendLies
import Derived.Test.YtpbpnkklnbmkeaaXA
import Derived.Shelf.SortM.Plain
import Derived.Shelf.SortM.SortNone
import Derived.Ground.SlgmProg
import Derived.Shelf.Lay
namespace Go.Proofs.Ytpbpnkklnbmkeaa
open Go.RowKit Go.Maps

theorem intsV_len (l : List Int) : (intsV l).length = l.length := by simp [intsV]
/-- A row of the call's own whose place is known. -/
theorem own_at {base : Nat} {w : World} {g n cap : Nat} {l : List Int} (h : OwnI base w (.slice (some ⟨g, 0, none⟩) n cap) l) : base ≤ g ∧ g < w.heap.size ∧ n = l.length := by
  obtain ⟨_, h2⟩ := h
  rcases h2 with ⟨e, _⟩ | ⟨g', cap', cur, e, hb, hc, _⟩
  · cases e
  · injection e with e1 e2 e3
    injection e1 with e1
    injection e1 with e1
    subst e1
    refine ⟨hb, ?_, e2⟩
    rcases Nat.lt_or_ge g w.heap.size with h | h
    · exact h
    · rw [Array.getElem?_eq_none h] at hc; cases hc
/-- append of numbers to a row of the call's own. -/
theorem app_ints {w : World} {o : Oper} {a : Act} {K : Act → World → Prop} {Q : Exit → Act → World → Prop} (s x : Operand)
    (ho : o.op = .call { callee := .builtin .append, args := #[s, x], argTypes := #[25, 25] }) (base g0 n cap0 : Nat) (l : List Int)
    (hs : a.eval s = .slice (some ⟨g0, 0, none⟩) n cap0) (hown : OwnI base w (.slice (some ⟨g0, 0, none⟩) n cap0) l) (ad : Option Addr) (m c : Nat) (l2 : List Int) (hx : a.eval x = .slice ad m c) (bs : List Nat) (hT : Ints w ad l2 bs) (hl2 : l2.length = m)
    (r : Nat) (hr : n + m = r) (hm : r ≤ 1048576) (hbase : base ≤ w.heap.size)
    (h : ∀ g cap w', OwnI base w' (.slice (some ⟨g, 0, none⟩) r cap) (l ++ l2) → w.grownBy w' (some g0) → K (a.put o.dst (.slice (some ⟨g, 0, none⟩) r cap)) w') : o.wp Try.prog a w K Q := by
  obtain ⟨_, hg0, hn⟩ := own_at hown
  subst hn
  subst hr
  obtain ⟨i, hi, hz, hsz, hby⟩ := info_parts infoI
  by_cases h0 : m = 0
  · subst h0
    obtain rfl : l2 = [] := List.length_eq_zero_iff.1 hl2
    have hrun := run_append_zero (P := Try.prog) (w := w) base 25 o.type 2 i 1 Try.underlying25 hi _ l.length _ hown ad c
    unfold Oper.wp
    simp [execOp, ho, resolve, invoke, builtin, hs, hx, hrun, Result.andThen]
    have := h g0 cap0 w (by rw [List.append_nil]; exact hown) (World.grownBy.refl _ _)
    have this : K (a.put o.dst (.slice (some ⟨g0, 0, none⟩) l.length cap0)) w := by simpa using this
    exact this
  · obtain ⟨b, off, f, rfl, hb, hxx⟩ := hT.out (k := 0) (by omega)
    refine wp_append_lies w s x 25 ho base 2 i (.int .i64 0) 1 8 Try.underlying25 hi hz hsz hby rfl (by decide) _ l.length (intsV l) hs hown ⟨b, off, none⟩ m c (intsV l2) hx (by rw [intsV_len, hl2, Nat.mul_one]) (fun j u hu => ?_) (fun u hu => ?_) (by omega) (by unfold maxLen; omega) (by omega) hbase _ rfl ?_
    · rw [addr_add]
      unfold intsV at hu
      rw [List.getElem?_map] at hu
      obtain ⟨y, hy, rfl⟩ := Option.map_eq_some_iff.1 hu
      obtain ⟨hj, rfl⟩ := List.getElem?_eq_some_iff.1 hy
      have := (hxx j hj).2.2
      rwa [Nat.mul_one] at this
    · obtain ⟨y, _, rfl⟩ := List.mem_map.1 hu
      rfl
    · intro g cap w' hown' hgrow _ _
      refine h g cap w' ?_ hgrow
      unfold OwnI
      rw [List.length_append, hl2]
      have e : intsV (l ++ l2) = intsV l ++ intsV l2 := List.map_append
      rw [e]
      exact hown'
/-- The beginning of a row. -/
theorem ints_take {w : World} {a : Option Addr} {l : List Int} {bs : List Nat} (h : Ints w a l bs) (k : Nat) : ∃ bs', Ints w a (l.take k) bs' := by
  rcases h with ⟨rfl, rfl⟩ | ⟨b, off, f, rfl, hb, rfl, hx⟩
  · exact ⟨[], .inl ⟨by simp, rfl⟩⟩
  · exact ⟨_, .inr ⟨b, off, f, rfl, hb, rfl, fun i hi => by
      have hi' : i < l.length := by rw [List.length_take] at hi; omega
      rw [List.getElem_take]; exact hx i hi'⟩⟩
/-- The end of a row. -/
theorem ints_drop {w : World} {b off : Nat} {l : List Int} {bs : List Nat} (h : Ints w (some ⟨b, off, none⟩) l bs) (k : Nat) : ∃ bs', Ints w (some ⟨b, off + k, none⟩) (l.drop k) bs' := by
  rcases h with ⟨rfl, rfl⟩ | ⟨b', off', f, e, hb, rfl, hx⟩
  · exact ⟨[], .inl ⟨by simp, rfl⟩⟩
  · injection e with e
    injection e with e1 e2 e3
    subst e1; subst e2
    exact ⟨_, .inr ⟨b, off + k, fun i => f (k + i), rfl, hb, rfl, fun i hi => by
      have hi' : k + i < l.length := by rw [List.length_drop] at hi; omega
      rw [List.getElem_drop]
      have := hx (k + i) hi'
      rw [Nat.mul_one] at this ⊢
      rw [Nat.add_assoc]; exact this⟩⟩
/-- One number in a block of its own. -/
theorem ints_lit1 {w : World} {B : Nat} {x : Int} (h : w.cell? ⟨B, 0, none⟩ = some (.int .i64 x)) (hx : In64 x) : Ints w (some ⟨B, 0, none⟩) [x] [B] :=
  .inr ⟨B, 0, fun _ => [], rfl, World.block_lt_of_cell? w _ h, by simp, fun i hi => by
    obtain rfl : i = 0 := by simpa using hi
    exact ⟨rfl, hx, h⟩⟩
end Go.Proofs.Ytpbpnkklnbmkeaa

namespace Go.Proofs.Ytpbpnkklnbmkeaa
open Go.RowKit Go.Maps Go.Sort Go.Shelf Go.Lib
shelf_lay_g SlLaysM.n5 Slgm 5 at Try 36 as Try.sortI64

theorem putRow_grownI (w : World) (b off n : Nat) (d : Array Int) (os : Array Obj) : w.grownBy (grow (putRow (Value.int .i64) (Sort.ahead w n) b off d) os) (some b) := by
  refine ⟨rfl, rfl, rfl, by simp [grow, putRow, mapBlock, Sort.ahead], fun i hi hn => ?_⟩
  have hne : b ≠ i := fun e => hn (by rw [e])
  show (((Sort.ahead w n).heap.modify b _) ++ os)[i]? = w.heap[i]?
  rw [Array.getElem?_append_left (by simpa [Sort.ahead] using hi), Array.getElem?_modify, if_neg hne]
  rfl
theorem flat_nilO {β : Type} (n : Nat) : (List.range n).flatMap (fun _ => ([] : List β)) = [] := List.flatMap_eq_nil_iff.2 fun _ _ => rfl
set_option maxHeartbeats 1000000 in
theorem sortInt_any (base : Nat) (v : Value) (l : List Int) (w : World) (hO : OwnI base w v l) (hi : ∀ y ∈ l, In64 y) (hl : l.length ≤ 1048576) :
    Calls Try.prog 36 #[v] w fun e w' => e = .returned (.tuple #[]) ∧ (∃ a c bs, v = .slice a (ascI l).length c ∧ Ints w' a (ascI l) bs ∧ Mine base w' bs) ∧ w.grownBy w' v.ownBlock := by
  obtain ⟨a, c, bs, rfl, hT, hbs, hfz⟩ := own_ints hO hi
  rcases hT with ⟨rfl, rfl⟩ | ⟨b, off, f, rfl, hb, rfl, hx⟩
  · have hcon := AnyM.slices_Sort_int_none Try.sortI64 a c w
    change Calls Try.prog 36 _ _ _ at hcon
    refine hcon.mono ?_
    rintro e w' ⟨rfl, rfl⟩
    exact ⟨rfl, ⟨a, c, [], by simp [ascI], by simp only [ascI, List.mergeSort_nil]; exact Sl.nil, ⟨List.nodup_nil, (fun _ h => nomatch h), (fun _ h => nomatch h)⟩⟩, World.grownBy.refl _ _⟩
  · have hH : Holds (Value.int .i64) w b off l.toArray := fun j hj => by
      have hj' : j < l.length := by simpa using hj
      have h := (hx j hj').2.2
      rw [Nat.mul_one] at h
      refine ⟨?_, hfz b (by simp) _⟩
      rw [h, getElem!_pos l.toArray j hj]
      simp
    have hcon := AnyM.slices_Sort_int Try.sortI64 b off c l w hH hb (by omega)
    change Calls Try.prog 36 _ _ _ at hcon
    refine hcon.mono ?_
    rintro e w' ⟨rfl, n, os, rfl⟩
    have hlen : (ascI l).length = l.length := (ascI_perm l).length_eq
    have hg := putRow_grownI w b off n (ascI l).toArray os
    have hH2 : Holds (Value.int .i64) (grow (putRow (Value.int .i64) (Sort.ahead w n) b off (ascI l).toArray) os) b off (ascI l).toArray :=
      holds_grow _ _ os b off _ (by simpa [putRow, mapBlock, Sort.ahead] using hb) (holds_putRow _ _ b off l.toArray _ (fun j hj => hH j hj) (by simp [hlen]))
    have hb0 := hbs b (by simp)
    refine ⟨rfl, ⟨_, c, [b], by rw [hlen], .inr ⟨b, off, fun _ => [], rfl, Nat.lt_of_lt_of_le hb hg.size, by rw [flat_nilO], fun i hil => ⟨rfl, hi _ ((ascI_perm l).mem_iff.1 (List.getElem_mem hil)), ?_⟩⟩, ⟨by simp, fun x hx => by rw [List.mem_singleton.1 hx]; exact ⟨hb0.1, Nat.lt_of_lt_of_le hb hg.size⟩, fun x hx j => ?_⟩⟩, hg⟩
    · have h := (hH2 i (by simpa using hil)).1
      rw [Nat.mul_one]
      exact h.trans (by rw [getElem!_pos (ascI l).toArray i (by simpa using hil)]; simp)
    · rw [List.mem_singleton.1 hx]
      rw [frozen?_grow _ _ _ (by simpa [putRow, mapBlock, Sort.ahead] using hb), frozen?_putRow]
      exact hfz b (by simp) j
end Go.Proofs.Ytpbpnkklnbmkeaa
