/-
  The points of a way, as data: the model, and rows of points as an answer.
-/
import Derived.Test.YtmmapkpieimibaaGreatSpecN
import Derived.Test.YtmmapkpieimibaaGreatOwnR
namespace Go.Proofs.YtmmapkpieimibaaGreat
open Go.RowKit Go.Maps

/-- The point of the node with that Id. -/
def ptI (l : List NodeD) (y : Int) : PtD := ⟨(l.getD (posI (nId l) l.length y).toNat ⟨0, 0, 0, []⟩).x, (l.getD (posI (nId l) l.length y).toNat ⟨0, 0, 0, []⟩).y⟩
theorem ptI_at {l : List NodeD} {T : Nat → Bool} {y : Int} (hA : AscP l.length (nId l) T) {j : Nat} (hj : j < l.length) (hy : nId l j = y) : ptI l y = ⟨l[j].x, l[j].y⟩ := by
  unfold ptI
  rw [← hy, posI_at hA hj, Int.toNat_natCast, getD_at _ hj]
def rowTo (l : List NodeD) (ns : List Int) (k : Nat) : List PtD := (ns.take k).map (ptI l)
theorem rowTo_succ {l : List NodeD} {ns : List Int} {k : Nat} (hk : k < ns.length) : rowTo l ns (k + 1) = rowTo l ns k ++ [ptI l ns[k]] := by
  unfold rowTo
  rw [List.take_succ_eq_append_getElem hk, List.map_append]
  rfl
theorem rowTo_len {l : List NodeD} {ns : List Int} {k : Nat} (hk : k ≤ ns.length) : (rowTo l ns k).length = k := by
  unfold rowTo
  rw [List.length_map, List.length_take]
  omega
theorem rowTo_at {l : List NodeD} {ns : List Int} {k i : Nat} (h : i < (rowTo l ns k).length) (hi : i < ns.length) : (rowTo l ns k)[i] = ptI l ns[i] := by
  simp [rowTo]
/-- The row of that way. -/
noncomputable def wayQ (m : MapD) (id : Int) : List PtD :=
  if mapB m = true then (if posI (wId m.ways) m.ways.length id < 0 then [] else rowTo m.nodes (m.ways.getD (posI (wId m.ways) m.ways.length id).toNat ⟨0, [], []⟩).nodes (m.ways.getD (posI (wId m.ways) m.ways.length id).toNat ⟨0, [], []⟩).nodes.length) else []

def ptsV (l : List PtD) : List Value := l.flatMap fun d => [.int .i64 d.x, .int .i64 d.y]
theorem ptsV_at : ∀ (l : List PtD) (i : Nat) (h : i < l.length), (ptsV l)[i * 2]? = some (.int .i64 l[i].x) ∧ (ptsV l)[i * 2 + 1]? = some (.int .i64 l[i].y)
  | _ :: _, 0, _ => ⟨rfl, rfl⟩
  | d :: l, i + 1, h => by
    have := ptsV_at l i (by simpa using h)
    rw [show (i + 1) * 2 = i * 2 + 1 + 1 by omega]
    exact this
/-- A row of points of the call's own, built by append. -/
def OwnP (base : Nat) (w : World) (v : Value) (l : List PtD) : Prop := w.ownsRow base 39 2 v l.length (ptsV l)
theorem ownp_add {base : Nat} {w : World} {v : Value} {l : List PtD} {d : PtD} (h : w.ownsRow base 39 2 v (l.length + 1) (ptsV l ++ [.int .i64 d.x, .int .i64 d.y])) : OwnP base w v (l ++ [d]) := by
  unfold OwnP
  rw [List.length_append, show ptsV (l ++ [d]) = ptsV l ++ [.int .i64 d.x, .int .i64 d.y] by simp [ptsV]]
  exact h
theorem infoP : (Tryz.prog.info? 39).map (fun i => (i.zero, i.size, i.bytes)) = some (some (.agg #[.int .i64 0, .int .i64 0]), 2, 16) := by kernel_rfl

/-- A row of points as an answer: it reads as this list, in blocks of the call's own. -/
def OutP (base : Nat) (w : World) (v : Value) (l : List PtD) : Prop :=
  ∃ a c bs, v = .slice a l.length c ∧ PtL w a l bs ∧ (∀ x ∈ bs, base ≤ x ∧ x < w.heap.size) ∧ ∀ x ∈ bs, ∀ j, w.frozen? ⟨x, j, none⟩ = false
theorem OutP.bel {base : Nat} {w w' : World} {v : Value} {l : List PtD} (h : OutP base w v l) (hb : Bel w w') : OutP base w' v l := by
  obtain ⟨a, c, bs, e, h1, h2, h3⟩ := h
  exact ⟨a, c, bs, e, h1.bel ptE hb, fun x hx => ⟨(h2 x hx).1, bel_lt hb (h2 x hx).2⟩, fun x hx j => by rw [hb.out.frozen (p := ⟨x, j, none⟩) (h2 x hx).2]; exact h3 x hx j⟩
theorem OutP.base {base base' : Nat} {w : World} {v : Value} {l : List PtD} (h : OutP base w v l) (hb : base' ≤ base) : OutP base' w v l := by
  obtain ⟨a, c, bs, e, h1, h2, h3⟩ := h
  exact ⟨a, c, bs, e, h1, fun x hx => ⟨Nat.le_trans hb (h2 x hx).1, (h2 x hx).2⟩, h3⟩
theorem OutP.nil (base : Nat) (w : World) (a : Option Addr) (c : Nat) : OutP base w (.slice a 0 c) [] := ⟨a, c, [], rfl, Sl.nil, (fun _ h => nomatch h), (fun _ h => nomatch h)⟩
theorem own_out {base : Nat} {w : World} {v : Value} {l : List PtD} (h : OwnP base w v l) (hi : ∀ d ∈ l, In64 d.x ∧ In64 d.y) : OutP base w v l := by
  obtain ⟨a, c, rfl⟩ := own_shape h
  rcases Nat.eq_zero_or_pos l.length with z | z
  · obtain rfl : l = [] := List.length_eq_zero_iff.1 z
    exact OutP.nil _ _ _ _
  · rcases h.2 with ⟨_, hz⟩ | ⟨g, cap, cur, e, hg, e3, _⟩
    · omega
    · cases e
      have hlt : g < w.heap.size := by
        rcases Nat.lt_or_ge g w.heap.size with h | h
        · exact h
        · rw [Array.getElem?_eq_none h] at e3; cases e3
      have hm : ∀ x ∈ g :: (List.range l.length).flatMap (fun _ => ([] : List Nat)), x = g := fun x hx => by
        rcases List.mem_cons.1 hx with h | h
        · exact h
        · obtain ⟨_, _, h⟩ := List.mem_flatMap.1 h
          exact nomatch h
      refine ⟨_, _, g :: (List.range l.length).flatMap (fun _ => ([] : List Nat)), rfl, .inr ⟨g, 0, fun _ => [], rfl, hlt, rfl, fun i hil => ⟨rfl, (hi _ (List.getElem_mem hil)).1, (hi _ (List.getElem_mem hil)).2, ?_, ?_⟩⟩, fun x hx => by rw [hm x hx]; exact ⟨hg, hlt⟩, fun x hx j => by rw [hm x hx]; simp [World.frozen?, e3]⟩
      · rw [Nat.zero_add, h.cellAt (i * 2) (by omega)]
        exact (ptsV_at l i hil).1
      · rw [Nat.zero_add, h.cellAt (i * 2 + 1) (by omega)]
        exact (ptsV_at l i hil).2
/-- A row of points that was made and filled. -/
theorem fill_out {base : Nat} {w : World} {B n c : Nat} {l : List PtD} {f : Nat → List Nat} (h : Fill 2 PtE w B n n l f) (hl : l.length = n) (hB : base ≤ B) : OutP base w (.slice (some ⟨B, 0, none⟩) n c) l := by
  have hm : ∀ x ∈ B :: (List.range n).flatMap f, x = B := fun x hx => by
    rcases List.mem_cons.1 hx with e | e
    · exact e
    · obtain ⟨i, hi, e⟩ := List.mem_flatMap.1 e
      have hi := List.mem_range.1 hi
      rw [(h.laid i (by omega) hi).1] at e
      exact nomatch e
  refine ⟨_, c, B :: (List.range n).flatMap f, by rw [hl], h.sl hl, fun x hx => by rw [hm x hx]; exact ⟨hB, h.lt⟩, fun x hx j => by rw [hm x hx]; exact h.free j⟩
end Go.Proofs.YtmmapkpieimibaaGreat
