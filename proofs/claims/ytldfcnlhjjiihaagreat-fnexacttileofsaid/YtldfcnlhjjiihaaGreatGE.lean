/-
  A row that a call builds by append, whose elements lead to memory of the call's own, too: how it grows, and how it is read.
  Contract of the making of a chart, first part.
  Rows of plain elements (numbers, texts, yes and no): copied by append.
-/
import Derived.Test.YtldfcnlhjjiihaaGreatGD
import Derived.Deep.RegionHeld3
import Derived.Laws.AppendOwnNone
namespace Go.Proofs.YtldfcnlhjjiihaaGreat
open Go.RowKit Go.Maps

/-- What an element's cells say, wherever they lie: the datum, and the blocks that it leads to. -/
abbrev VElem (α : Type) := World → List Value → α → List Nat → Prop
structure VStays {α : Type} (q : Nat) (E : Elem α) (V : VElem α) : Prop where
  len : ∀ {w : World} {vs : List Value} {d : α} {bs : List Nat}, V w vs d bs → vs.length = q
  one : ∀ {w : World} {vs : List Value} {d : α} {bs : List Nat}, V w vs d bs → ∀ u ∈ vs, u.oneCell' = true
  alike : ∀ {w w' : World} {vs : List Value} {d : α} {bs : List Nat}, V w vs d bs → Alike w w' bs → V w' vs d bs
  lt : ∀ {w : World} {vs : List Value} {d : α} {bs : List Nat}, V w vs d bs → ∀ x ∈ bs, x < w.heap.size
  put : ∀ {w : World} {vs : List Value} {d : α} {bs : List Nat} {b o : Nat}, V w vs d bs → (∀ j (h : j < vs.length), w.cell? ⟨b, o + j, none⟩ = some vs[j]) → E w b o d bs

def updF {β : Type} (g : Nat → β) (n : Nat) (x : β) : Nat → β := fun i => if i = n then x else g i
theorem updF_old {β : Type} (g : Nat → β) {n i : Nat} (x : β) (h : i < n) : updF g n x i = g i := by simp [updF, show i ≠ n by omega]
theorem updF_new {β : Type} (g : Nat → β) (n : Nat) (x : β) : updF g n x n = x := by simp [updF]
theorem range_upd {β : Type} (g : Nat → List β) (x : List β) (n : Nat) : (List.range (n + 1)).flatMap (updF g n x) = (List.range n).flatMap g ++ x := by
  rw [List.range_succ, List.flatMap_append]
  congr 1
  · exact congrArg List.flatten (List.map_congr_left fun i hi => updF_old g x (List.mem_range.1 hi))
  · simp [updF_new]
theorem alike_row {w w' : World} {row : Option Nat} (h : w.grownBy w' row) {bs : List Nat} (hs : ∀ x ∈ bs, x < w.heap.size ∧ some x ≠ row) : Alike w w' bs := fun b hb => by
  have e := h.block b (hs b hb).1 (hs b hb).2
  exact ⟨Nat.lt_of_lt_of_le (hs b hb).1 h.size, fun o => World.cell?_of_block (a := ⟨b, o, none⟩) e, fun o => World.frozen?_of_block (a := ⟨b, o, none⟩) e⟩

/-- A row that is being built; lo: all its memory lies from there on. -/
structure Gr {α : Type} (q : Nat) (V : VElem α) (T : TypeId) (lo : Nat) (w : World) (v : Value) (l : List α) (R : Nat → List Value) (f : Nat → List Nat) : Prop where
  own : w.ownsRow lo T q v l.length (recs R l.length)
  len : ∀ i, (R i).length = q
  el : ∀ i (h : i < l.length), V w (R i) l[i] (f i)
  sub : ∀ i, i < l.length → ∀ x ∈ f i, lo ≤ x ∧ x < w.heap.size ∧ (∀ j, w.frozen? ⟨x, j, none⟩ = false) ∧ v.ownBlock ≠ some x
  nd : ((List.range l.length).flatMap f).Nodup

theorem Gr.nil {α : Type} (q : Nat) (V : VElem α) (T : TypeId) (lo : Nat) (w : World) : Gr q V T lo w (.slice none 0 0) [] (fun _ => List.replicate q (.bool false)) (fun _ => []) :=
  ⟨World.ownsRow_nil _ _ _ _, fun _ => by simp, fun i h => absurd h (Nat.not_lt_zero _), fun i h => absurd h (Nat.not_lt_zero _), by simp⟩

theorem Gr.alike {α : Type} {q : Nat} {E : Elem α} {V : VElem α} (hS : VStays q E V) {T : TypeId} {lo : Nat} {w w' : World} {v : Value} {l : List α} {R : Nat → List Value} {f : Nat → List Nat} (h : Gr q V T lo w v l R f)
    (ho : w'.ownsRow lo T q v l.length (recs R l.length)) (hA : ∀ i, i < l.length → Alike w w' (f i)) : Gr q V T lo w' v l R f :=
  ⟨ho, h.len, fun i hi => hS.alike (h.el i hi) (hA i hi), fun i hi x hx => ⟨(h.sub i hi x hx).1, (hA i hi x hx).1, fun j => by rw [(hA i hi x hx).2.2 j]; exact (h.sub i hi x hx).2.2.1 j, (h.sub i hi x hx).2.2.2⟩, h.nd⟩

theorem Gr.bel {α : Type} {q : Nat} {E : Elem α} {V : VElem α} (hS : VStays q E V) {T : TypeId} {lo : Nat} {w w' : World} {v : Value} {l : List α} {R : Nat → List Value} {f : Nat → List Nat} (h : Gr q V T lo w v l R f) (hb : Bel w w') : Gr q V T lo w' v l R f :=
  h.alike hS (own_bel h.own hb) fun i hi => Alike.bel hb fun x hx => (h.sub i hi x hx).2.1

theorem Gr.far {α : Type} {q : Nat} {E : Elem α} {V : VElem α} (hS : VStays q E V) {T : TypeId} {lo : Nat} {w w' : World} {v : Value} {l : List α} {R : Nat → List Value} {f : Nat → List Nat} {C : Nat} (h : Gr q V T lo w v l R f) (hg : w.grownBy w' (some C)) (hC : C < lo) : Gr q V T lo w' v l R f :=
  h.alike hS (own_kept h.own hg hC) fun i hi => grown_alike hg (fun x hx => (h.sub i hi x hx).2.1) fun hx => by have := (h.sub i hi C hx).1; omega

/-- One element more: w0 the row's world, w1 that behind the making of the element, w2 that behind the list of one, w3 that behind append. -/
theorem Gr.add {α : Type} {q : Nat} {E : Elem α} {V : VElem α} (hS : VStays q E V) {T : TypeId} {lo : Nat} {w0 w1 w2 w3 : World} {v v' : Value} {l : List α} {R : Nat → List Value} {f : Nat → List Nat} (h : Gr q V T lo w0 v l R f)
    (h01 : Bel w0 w1) (h12 : Bel w1 w2) {vs : List Value} {d : α} {bs : List Nat} (hv : V w1 vs d bs) (hF : Fresh w0 w1 bs) (hlo : lo ≤ w0.heap.size)
    (ho : w3.ownsRow lo T q v' (l.length + 1) (recs R l.length ++ vs)) (hg : w2.grownBy w3 v.ownBlock) (hat : v'.ownBlock = v.ownBlock ∨ v'.ownBlock = some w2.heap.size) :
    Gr q V T lo w3 v' (l ++ [d]) (updF R l.length vs) (updF f l.length bs) := by
  have h02 := bel_step h01 h12
  have g2 := h.bel hS h02
  have hvo : ∀ g, v.ownBlock = some g → g < w0.heap.size := fun g e => (h.own.lt g e).2
  have hA : ∀ i, i < l.length → Alike w2 w3 (f i) := fun i hi => alike_row hg fun x hx => ⟨(g2.sub i hi x hx).2.1, fun e => (g2.sub i hi x hx).2.2.2 e.symm⟩
  have hlt1 := hS.lt hv
  have hAn : Alike w2 w3 bs := alike_row hg fun x hx => ⟨bel_lt h12 (hlt1 x hx), fun e => by have := hvo x e.symm; have := (hF.new x hx).1; omega⟩
  have hne : ∀ x, x < w2.heap.size → v.ownBlock ≠ some x → v'.ownBlock ≠ some x := fun x hx h1 h2 => by
    rcases hat with e | e
    · rw [e] at h2; exact h1 h2
    · rw [e] at h2; injection h2 with h2; omega
  have hl : (l ++ [d]).length = l.length + 1 := by simp
  refine ⟨?_, ?_, ?_, ?_, ?_⟩
  · rw [hl]
    have : recs (updF R l.length vs) (l.length + 1) = recs R l.length ++ vs := by unfold recs; exact range_upd R vs l.length
    rw [this]
    exact ho
  · intro i
    by_cases e : i = l.length
    · subst e; rw [updF_new]; exact hS.len hv
    · unfold updF; rw [if_neg e]; exact h.len i
  · intro i hi
    rw [hl] at hi
    by_cases e : i = l.length
    · subst e
      rw [updF_new, updF_new]
      have : (l ++ [d])[l.length]'(by simp) = d := by simp
      rw [this]
      exact hS.alike (hS.alike hv (Alike.bel h12 hlt1)) hAn
    · have hi' : i < l.length := by omega
      rw [updF_old _ _ hi', updF_old _ _ hi', List.getElem_append_left hi']
      exact hS.alike (g2.el i hi') (hA i hi')
  · intro i hi x hx
    rw [hl] at hi
    by_cases e : i = l.length
    · subst e
      rw [updF_new] at hx
      have hb := bel_lt h12 (hlt1 x hx)
      refine ⟨Nat.le_trans hlo (hF.new x hx).1, (hAn x hx).1, fun j => ?_, hne x hb fun e => ?_⟩
      · rw [(hAn x hx).2.2 j, h12.out.frozen (p := ⟨x, j, none⟩) (hlt1 x hx)]; exact hF.free x hx j
      · have := hvo x e; have := (hF.new x hx).1; omega
    · have hi' : i < l.length := by omega
      rw [updF_old _ _ hi'] at hx
      obtain ⟨s1, s2, s3, s4⟩ := g2.sub i hi' x hx
      exact ⟨s1, (hA i hi' x hx).1, fun j => by rw [(hA i hi' x hx).2.2 j]; exact s3 j, hne x s2 s4⟩
  · rw [hl, range_upd]
    refine List.nodup_append.2 ⟨h.nd, hF.nd, fun a ha b hb e => ?_⟩
    subst e
    obtain ⟨i, hi, hx⟩ := List.mem_flatMap.1 ha
    have := (h.sub i (List.mem_range.1 hi) a hx).2.1
    have := (hF.new a hb).1
    omega

/-- A row of the call's own, as it is read: blocks from lo on, each once, writable. -/
structure Mine (lo : Nat) (w : World) (bs : List Nat) : Prop where
  nd : bs.Nodup
  new : ∀ x ∈ bs, lo ≤ x ∧ x < w.heap.size
  free : ∀ x ∈ bs, ∀ j, w.frozen? ⟨x, j, none⟩ = false
theorem Mine.bel {lo : Nat} {w w' : World} {bs : List Nat} (h : Mine lo w bs) (hb : Bel w w') : Mine lo w' bs :=
  ⟨h.nd, fun b hm => ⟨(h.new b hm).1, bel_lt hb (h.new b hm).2⟩, fun b hm j => by rw [hb.out.frozen (p := ⟨b, j, none⟩) (h.new b hm).2]; exact h.free b hm j⟩
theorem Mine.fresh {lo : Nat} {w w' : World} {bs : List Nat} (h : Mine lo w' bs) (hl : w.heap.size ≤ lo) : Fresh w w' bs := ⟨h.nd, fun b hm => ⟨Nat.le_trans hl (h.new b hm).1, (h.new b hm).2⟩, h.free⟩
theorem Mine.app {lo lo' : Nat} {w w' : World} {bs cs : List Nat} (h : Mine lo w bs) (hb : Bel w w') (k : Mine lo' w' cs) (hl : w.heap.size ≤ lo') (hll : lo ≤ lo') : Mine lo w' (bs ++ cs) := by
  have h' := h.bel hb
  refine ⟨List.nodup_append.2 ⟨h.nd, k.nd, fun a ha b hb e => ?_⟩, fun b hm => (List.mem_append.1 hm).elim (h'.new b) fun hm => ⟨Nat.le_trans hll (k.new b hm).1, (k.new b hm).2⟩, fun b hm => (List.mem_append.1 hm).elim (h'.free b) (k.free b)⟩
  subst e
  have := (h.new a ha).2
  have := (k.new a hb).1
  omega

theorem Gr.out {α : Type} {q : Nat} {E : Elem α} {V : VElem α} (hS : VStays q E V) {T : TypeId} {lo : Nat} {w : World} {v : Value} {l : List α} {R : Nat → List Value} {f : Nat → List Nat} (h : Gr q V T lo w v l R f) :
    ∃ a c bs, v = .slice a l.length c ∧ Sl q E w a l bs ∧ Mine lo w bs := by
  rcases Nat.eq_zero_or_pos l.length with z | z
  · obtain rfl : l = [] := List.length_eq_zero_iff.1 z
    rcases h.own.2 with ⟨rfl, _⟩ | ⟨g, cap, cur, rfl, _⟩
    · exact ⟨_, _, [], rfl, Sl.nil, List.nodup_nil, (fun _ h => nomatch h), (fun _ h => nomatch h)⟩
    · exact ⟨_, _, [], rfl, Sl.nil, List.nodup_nil, (fun _ h => nomatch h), (fun _ h => nomatch h)⟩
  · have hown := h.own
    rcases h.own.2 with ⟨_, hz⟩ | ⟨g, cap, cur, rfl, hg, e3, _⟩
    · omega
    · have hlt : g < w.heap.size := by
        rcases Nat.lt_or_ge g w.heap.size with h | h
        · exact h
        · rw [Array.getElem?_eq_none h] at e3; cases e3
      refine ⟨_, cap, g :: (List.range l.length).flatMap f, rfl, .inr ⟨g, 0, f, rfl, hlt, rfl, fun i hi => hS.put (h.el i hi) fun j hj => ?_⟩, List.nodup_cons.2 ⟨fun hm => ?_, h.nd⟩, fun x hx => ?_, fun x hx j => ?_⟩
      · have hj' : j < q := by rw [h.len] at hj; exact hj
        have h2 : i * q + q ≤ l.length * q := by have := Nat.mul_le_mul_right q (show i + 1 ≤ l.length by omega); rw [Nat.add_mul, Nat.one_mul] at this; exact this
        rw [Nat.zero_add, hown.cellAt (i * q + j) (by omega), recs_at h.len hj' l.length hi, List.getElem?_eq_getElem hj]
      · obtain ⟨i, hi, hx⟩ := List.mem_flatMap.1 hm
        exact (h.sub i (List.mem_range.1 hi) g hx).2.2.2 rfl
      · rcases List.mem_cons.1 hx with rfl | hx
        · exact ⟨hg, hlt⟩
        · obtain ⟨i, hi, hx⟩ := List.mem_flatMap.1 hx
          have := h.sub i (List.mem_range.1 hi) x hx
          exact ⟨this.1, this.2.1⟩
      · rcases List.mem_cons.1 hx with rfl | hx
        · simp [World.frozen?, e3]
        · obtain ⟨i, hi, hx⟩ := List.mem_flatMap.1 hx
          exact (h.sub i (List.mem_range.1 hi) x hx).2.2.1 j

end Go.Proofs.YtldfcnlhjjiihaaGreat

namespace Go.Proofs.YtldfcnlhjjiihaaGreat
open Go.RowKit Go.Maps

theorem Blk.grownR {w w' : World} {B : Nat} {row : Option Nat} {vs : List Value} (h : Blk w B vs) (hg : w.grownBy w' row) (hne : some B ≠ row) : Blk w' B vs := by
  have e : w'.heap[B]? = w.heap[B]? := hg.block B h.lt hne
  exact ⟨Nat.lt_of_lt_of_le h.lt hg.size, fun j hj => (World.cell?_of_block (a := ⟨B, j, none⟩) e).trans (h.cell j hj), fun j => (World.frozen?_of_block (a := ⟨B, j, none⟩) e).trans (h.free j)⟩

theorem own_shape {w : World} {base : Nat} {e : TypeId} {q n : Nat} {v : Value} {xs : List Value} (h : w.ownsRow base e q v n xs) : ∃ a c, v = .slice a n c := by
  rcases h.2 with ⟨rfl, rfl⟩ | ⟨g, cap, cur, rfl, _⟩
  · exact ⟨_, _, rfl⟩
  · exact ⟨_, _, rfl⟩

def rowN (A : Nat → Option Addr) (C : Nat → Nat) (l : List NodeD) (i : Nat) : List Value :=
  [.int .i64 (l.getD i ⟨0, 0, 0, []⟩).id, .slice (A i) (l.getD i ⟨0, 0, 0, []⟩).tags.length (C i), .int .i64 (l.getD i ⟨0, 0, 0, []⟩).x, .int .i64 (l.getD i ⟨0, 0, 0, []⟩).y]
theorem rowN_at {A : Nat → Option Addr} {C : Nat → Nat} {l : List NodeD} {i : Nat} (h : i < l.length) : rowN A C l i = [.int .i64 l[i].id, .slice (A i) l[i].tags.length (C i), .int .i64 l[i].x, .int .i64 l[i].y] := by
  unfold rowN; rw [getD_at _ h]
theorem infoNR : (Tryz.prog.info? 123).map (fun i => (i.zero, i.size, i.bytes)) = some (some (.agg #[.int .i64 0, .slice none 0 0, .int .i64 0, .int .i64 0]), 4, 48) := by kernel_rfl

def rowW (A : Nat → Option Addr) (C : Nat → Nat) (A' : Nat → Option Addr) (C' : Nat → Nat) (l : List WayD) (i : Nat) : List Value :=
  [.int .i64 (l.getD i ⟨0, [], []⟩).id, .slice (A' i) (l.getD i ⟨0, [], []⟩).tags.length (C' i), .slice (A i) (l.getD i ⟨0, [], []⟩).nodes.length (C i)]
theorem rowW_at {A : Nat → Option Addr} {C : Nat → Nat} {A' : Nat → Option Addr} {C' : Nat → Nat} {l : List WayD} {i : Nat} (h : i < l.length) : rowW A C A' C' l i = [.int .i64 l[i].id, .slice (A' i) l[i].tags.length (C' i), .slice (A i) l[i].nodes.length (C i)] := by
  unfold rowW; rw [getD_at _ h]
theorem infoWR : (Tryz.prog.info? 125).map (fun i => (i.zero, i.size, i.bytes)) = some (some (.agg #[.int .i64 0, .slice none 0 0, .slice none 0 0]), 3, 56) := by kernel_rfl
def rowA (A : Nat → Option Addr) (C : Nat → Nat) (A' : Nat → Option Addr) (C' : Nat → Nat) (l : List AreaD) (i : Nat) : List Value :=
  [.int .i64 (l.getD i ⟨0, [], []⟩).id, .slice (A' i) (l.getD i ⟨0, [], []⟩).tags.length (C' i), .slice (A i) (l.getD i ⟨0, [], []⟩).parts.length (C i)]
theorem rowA_at {A : Nat → Option Addr} {C : Nat → Nat} {A' : Nat → Option Addr} {C' : Nat → Nat} {l : List AreaD} {i : Nat} (h : i < l.length) : rowA A C A' C' l i = [.int .i64 l[i].id, .slice (A' i) l[i].tags.length (C' i), .slice (A i) l[i].parts.length (C i)] := by
  unfold rowA; rw [getD_at _ h]
theorem infoAR : (Tryz.prog.info? 127).map (fun i => (i.zero, i.size, i.bytes)) = some (some (.agg #[.int .i64 0, .slice none 0 0, .slice none 0 0]), 3, 56) := by kernel_rfl

/-- All but the chart's own block is as it was, and that block holds the three lists. -/
structure Sx (C : Nat) (s0 s1 s2 : Value) (W w' : World) : Prop where
  g : W.grownBy w' (some C)
  b : ∃ u3 u4, Blk w' C [s0, s1, s2, u3, u4]
theorem Sx.drew {C : Nat} {s0 s1 s2 : Value} {W w' : World} (h : Sx C s0 s1 s2 W w') : Sx C s0 s1 s2 W w'.drew := ⟨⟨h.g.os, h.g.tape, h.g.output, h.g.size, h.g.block⟩, by obtain ⟨u3, u4, h⟩ := h.b; exact ⟨u3, u4, h.lt, h.cell, h.free⟩⟩
theorem Sx.bel {C : Nat} {s0 s1 s2 : Value} {W w' w'' : World} (h : Sx C s0 s1 s2 W w') (hb : Bel w' w'') : Sx C s0 s1 s2 W w'' := ⟨grown_step h.g hb, by obtain ⟨u3, u4, h⟩ := h.b; exact ⟨u3, u4, h.bel hb⟩⟩
theorem Sx.set3 {C : Nat} {s0 s1 s2 : Value} {W w' : World} (h : Sx C s0 s1 s2 W w') (u : Value) : Sx C s0 s1 s2 W (w'.setCell ⟨C, 3, none⟩ u) := ⟨grown_set h.g 3 u, by obtain ⟨u3, u4, h⟩ := h.b; exact ⟨u, u4, h.set 3 u (by simp)⟩⟩
theorem Sx.set4 {C : Nat} {s0 s1 s2 : Value} {W w' : World} (h : Sx C s0 s1 s2 W w') (u : Value) : Sx C s0 s1 s2 W (w'.setCell ⟨C, 4, none⟩ u) := ⟨grown_set h.g 4 u, by obtain ⟨u3, u4, h⟩ := h.b; exact ⟨u3, u, h.set 4 u (by simp)⟩⟩

abbrev nilS : Value := .slice none 0 0

/-- No chart. -/
abbrev chZ : Value := .agg #[nilS, nilS, nilS, .map none, .map none]

set_option maxRecDepth 100000 in
set_option maxHeartbeats 8000000 in
theorem chartOf_yes (a0 : Option Addr) (n0 c0 : Nat) (ns : List NodeD) (bs0 : List Nat) (a1 : Option Addr) (n1 c1 : Nat) (ws : List WayD) (bs1 : List Nat) (a2 : Option Addr) (n2 c2 : Nat) (rs : List AreaD) (bs2 : List Nat) (w : World)
    (t0 : Nodes w a0 ns bs0) (e0 : ns.length = n0) (m0 : n0 ≤ 5000) (t1 : Ways w a1 ws bs1) (e1 : ws.length = n1) (m1 : n1 ≤ 1000) (t2 : Areas w a2 rs bs2) (e2 : rs.length = n2) (m2 : n2 ≤ 300)
    (u0 : ∀ i (h : i < ns.length), ns[i].tags.length ≤ 1048576) (u1 : ∀ i (h : i < ws.length), ws[i].nodes.length ≤ 1048576 ∧ ws[i].tags.length ≤ 1048576) (u2 : ∀ i (h : i < rs.length), rs[i].parts.length ≤ 1048576 ∧ rs[i].tags.length ≤ 1048576) :
    Calls Tryz.prog 26 #[.agg #[.slice a0 n0 c0, .slice a1 n1 c1, .slice a2 n2 c2]] w fun e w' => (bP (ChartP ns ws rs n0 n1 n2) = true ∧ ∃ b0 k0 b1 k1 b2 k2 bN bW q0 q1 q2, e = .returned (.tuple #[chV b0 n0 k0 b1 n1 k1 b2 n2 k2 bN bW, .bool true]) ∧ NRecs w' b0 ns q0 ∧ WRecs w' b1 ws q1 ∧ ARecs w' b2 rs q2 ∧ MapAt w' bN n0 (plc (nId ns) n0) ∧ MapAt w' bW n1 (plc (wId ws) n1) ∧ Bel w w') ∨
      (bP (ChartP ns ws rs n0 n1 n2) = false ∧ e = .returned (.tuple #[chZ, .bool false]) ∧ Bel w w') := by
  have E0 : Hid (ns.length = n0) := e0
  have E1 : Hid (ws.length = n1) := e1
  have E2 : Hid (rs.length = n2) := e2
  clear e0 e1 e2
  obtain ⟨i0, hi0, hz00, hz01, hz02⟩ := info_parts infoNR
  obtain ⟨i1, hi1, hz10, hz11, hz12⟩ := info_parts infoWR
  obtain ⟨i2, hi2, hz20, hz21, hz22⟩ := info_parts infoAR
  go_enter Tryz.func26, Tryz.ntmps26
  go_wp2
  obtain ⟨W1, HW⟩ : ∃ W, Hid (W = ((w.alloc (.cells #[.slice a0 n0 c0, .slice a1 n1 c1, .slice a2 n2 c2] 39)).alloc (.cells #[nilS, nilS, nilS, .map none, .map none] 76)).alloc (.cells #[nilS, nilS, nilS, .map none, .map none] 76)) := ⟨_, (rfl : _ = _)⟩
  have hB1 : Bel w W1 := by rw [HW.out]; exact bel_alloc (bel_alloc (bel_alloc (Bel.refl _) _) _) _
  have hz1W : W1.heap.size = w.heap.size + 1 + 1 + 1 := by rw [HW.out]; simp
  have X1 : Blk W1 w.heap.size [.slice a0 n0 c0, .slice a1 n1 c1, .slice a2 n2 c2] := by rw [HW.out]; exact (Blk.new w [.slice a0 n0 c0, .slice a1 n1 c1, .slice a2 n2 c2] _).bel (bel_alloc (bel_alloc (Bel.refl _) _) _)
  have R1 : Blk W1 (w.heap.size + 1) [nilS, nilS, nilS, .map none, .map none] := by rw [HW.out]; exact (Blk.new1 w _ [nilS, nilS, nilS, .map none, .map none] _).bel (bel_alloc (Bel.refl _) _)
  have O1 : Blk W1 (w.heap.size + 1 + 1) [nilS, nilS, nilS, .map none, .map none] := by rw [HW.out]; exact Blk.new2 w _ _ [nilS, nilS, nilS, .map none, .map none] _
  rw [← HW.out]
  obtain ⟨A0, C0, f0, hf0, hx0⟩ := name_nodes t0
  have HX0 : Hid _ := hx0
  obtain ⟨A1, C1, A1', C1', f1, f1', hf1, hx1⟩ := name_ways t1
  have HX1 : Hid _ := hx1
  obtain ⟨A2, C2, A2', C2', f2, f2', hf2, hx2⟩ := name_areas t2
  have HX2 : Hid _ := hx2
  clear hx0 hx1 hx2 HW
  have x10 : W1.cell? ⟨w.heap.size, 0, none⟩ = some (.slice a0 n0 c0) := X1.cell 0 (by simp)

  go_loopw [6, 31] (fun _ i wr => ∃ (k : Nat) (v : Value), k ≤ n0 ∧ i = .int .i64 k ∧ Blk wr (w.heap.size + 1 + 1) [v, nilS, nilS, .map none, .map none] ∧ wr.ownsRow (w.heap.size + 1 + 1 + 1) 123 4 v k (recs (rowN A0 C0 ns) k) ∧ W1.grownBy wr (some (w.heap.size + 1 + 1))) (fun _ i _ => n0 - (intOf i).toNat)
  case atStart => exact ⟨0, nilS, Nat.zero_le _, rfl, O1, World.ownsRow_nil _ _ _ _, World.grownBy.refl _ _⟩
  case round =>
    obtain ⟨k, v, hk, rfl, hO, hown, hgr⟩ := hrel
    have hBr : Bel w wr := bel_grow hB1 hgr (fun k e => by injection e with e; omega)
    by_cases hlt : k < n0
    · have hkl : k < ns.length := by rw [E0.out]; exact hlt
      obtain ⟨b, off, rfl, hb, _, _, _, d0, d1, d2, _, d3, _⟩ := HX0.out k hkl
      have d0 := bel_cellM hBr hb d0
      have d1 := bel_cellM hBr hb d1
      have d2 := bel_cellM hBr hb d2
      have d3 := bel_cellM hBr hb d3
      have o0 : wr.cell? ⟨w.heap.size + 1 + 1, 0, none⟩ = some v := hO.cell 0 (by simp)
      have hol := hO.lt
      have hO2 := (hO.bel (bel_alloc (Bel.refl wr) (.cells #[.int .i64 ns[k].id, .int .i64 ns[k].x, .int .i64 ns[k].y, .slice (A0 k) ns[k].tags.length (C0 k)] 102))).bel (bel_alloc (Bel.refl _) (.cells #[.int .i64 ns[k].id, .slice (A0 k) ns[k].tags.length (C0 k), .int .i64 ns[k].x, .int .i64 ns[k].y] 123))
      have hown2 := World.ownsRow.alloc (World.ownsRow.alloc hown (.cells #[.int .i64 ns[k].id, .int .i64 ns[k].x, .int .i64 ns[k].y, .slice (A0 k) ns[k].tags.length (C0 k)] 102)) (.cells #[.int .i64 ns[k].id, .slice (A0 k) ns[k].tags.length (C0 k), .int .i64 ns[k].x, .int .i64 ns[k].y] 123)
      have hgr2 := grown_step hgr (bel_alloc (bel_alloc (Bel.refl wr) (.cells #[.int .i64 ns[k].id, .int .i64 ns[k].x, .int .i64 ns[k].y, .slice (A0 k) ns[k].tags.length (C0 k)] 102)) (.cells #[.int .i64 ns[k].id, .slice (A0 k) ns[k].tags.length (C0 k), .int .i64 ns[k].x, .int .i64 ns[k].y] 123))
      have hbr2 := bel_alloc (bel_alloc hBr (.cells #[.int .i64 ns[k].id, .int .i64 ns[k].x, .int .i64 ns[k].y, .slice (A0 k) ns[k].tags.length (C0 k)] 102)) (.cells #[.int .i64 ns[k].id, .slice (A0 k) ns[k].tags.length (C0 k), .int .i64 ns[k].x, .int .i64 ns[k].y] 123)
      have hgs := hgr.size
      have HO : Hid (wr.ownsRow (w.heap.size + 1 + 1 + 1) 123 4 v k (recs (rowN A0 C0 ns) k)) := hown
      clear hown hO hgr
      go_wp2_with (first
        | (at_builtin; refine wpList_append_own _ rfl _ _ 71 rfl (w.heap.size + 1 + 1 + 1) 123 i0 (.agg #[.int .i64 0, .slice none 0 0, .int .i64 0, .int .i64 0]) 4 48 Tryz.underlying71 hi0 hz00 hz01 hz02 rfl (by decide) _ _ _ rfl hown2 ⟨wr.heap.size + 1, 0, none⟩ 1 1 [.int .i64 ns[k].id, .slice (A0 k) ns[k].tags.length (C0 k), .int .i64 ns[k].x, .int .i64 ns[k].y] rfl rfl ?c1 ?c2 ?c3 ?c4 ?c5 ?_)
        | go_in)
      case c1 =>
        intro j u hj
        match j, hj with
        | 0, hj => simp at hj; subst hj; simp [Addr.add]
        | 1, hj => simp at hj; subst hj; simp [Addr.add]
        | 2, hj => simp at hj; subst hj; simp [Addr.add]
        | 3, hj => simp at hj; subst hj; simp [Addr.add]
      case c2 =>
        intro u hu
        simp at hu
        rcases hu with rfl | rfl | rfl | rfl <;> rfl
      case c3 => unfold maxLen; omega
      case c4 => omega
      case c5 => simp; omega
      intro v' w3 hown' hgrow _
      obtain ⟨va, vc, rfl⟩ := own_shape hown'
      have hne : some (w.heap.size + 1 + 1) ≠ v.ownBlock := fun e => by have := (hown2.lt _ e.symm).1; omega
      have hO3 := hO2.grownR hgrow hne
      have p0 : w3.cell? ⟨w.heap.size + 1 + 1, 0, none⟩ = some (v) := hO3.cell 0 (by simp)
      have p1 : w3.cell? ⟨w.heap.size + 1 + 1, 1, none⟩ = some (nilS) := hO3.cell 1 (by simp)
      have p2 : w3.cell? ⟨w.heap.size + 1 + 1, 2, none⟩ = some (nilS) := hO3.cell 2 (by simp)
      have p3 : w3.cell? ⟨w.heap.size + 1 + 1, 3, none⟩ = some (.map none) := hO3.cell 3 (by simp)
      have p4 : w3.cell? ⟨w.heap.size + 1 + 1, 4, none⟩ = some (.map none) := hO3.cell 4 (by simp)
      have pf := hO3.free
      have hG3 : W1.grownBy w3 (some (w.heap.size + 1 + 1)) := hgr2.andThen hgrow (fun j e => .inl (by have := (hown2.lt j e).1; omega))
      have HO3 : Hid (w3.ownsRow (w.heap.size + 1 + 1 + 1) 123 4 (.slice va (k + 1) vc) (k + 1) (recs (rowN A0 C0 ns) (k + 1))) := by rw [recs_succ, rowN_at hkl]; exact hown'
      clear hown' hgrow hown2 hO2 hgr2 HO d0 d1 d2 d3 o0
      go_wp2
      go_roundw
      case rel => exact ⟨k + 1, .slice va (k + 1) vc, by omega, by go_num, hO3.set 0 _ (by simp), own_kept HO3.out (grown_set (World.grownBy.refl w3 _) 0 _) (by omega), grown_set hG3 0 _⟩
      case measure => simp [intOf]; omega
    · have e : n0 = k := by omega
      subst e
      obtain ⟨b0, k0, q0, rfl, hR0, hq0⟩ := own_sl (E := NRecE) (l := ns) (R := rowN A0 C0 ns) E0.out (fun i => rfl) hown f0 (fun i hi b o G => by
        obtain ⟨_, _, _, _, i1, i2, i3, _, _, _, ml, _, tt⟩ := HX0.out i hi
        rw [rowN_at hi] at G
        exact ⟨i1, i2, i3, G 0 (by simp), G 2 (by simp), G 3 (by simp), A0 i, C0 i, ml, G 1 (by simp), tt.bel tagE hBr⟩)
      have hc0 : w.heap.size + 1 + 1 ∉ q0 := fun hx => by
        rcases hq0 _ hx with h | ⟨i, hi, h⟩
        · omega
        · have := t0.lt nodeE _ (hf0 i (by rw [E0.out]; exact hi) _ h); omega
      have hd0 : w.heap.size + 1 ∉ q0 := fun hx => by
        rcases hq0 _ hx with h | ⟨i, hi, h⟩
        · omega
        · have := t0.lt nodeE _ (hf0 i (by rw [E0.out]; exact hi) _ h); omega
      clear hown
      have X2 := X1.grown hgr (by omega)
      have R2 := R1.grown hgr (by omega)
      have O2 := hO
      have hs2 := hgr.size
      have hB2 := hBr
      clear hO hBr hgr
      obtain ⟨W2, HW2⟩ : ∃ W, Hid (W = wr) := ⟨_, (rfl : wr = _)⟩
      rw [← HW2.out]
      rw [← HW2.out] at X2 R2 O2 hs2 hB2 hR0
      clear HW2
      have x20 : W2.cell? ⟨w.heap.size, 0, none⟩ = some (.slice a0 n0 c0) := X2.cell 0 (by simp)
      have x21 : W2.cell? ⟨w.heap.size, 1, none⟩ = some (.slice a1 n1 c1) := X2.cell 1 (by simp)
      have x22 : W2.cell? ⟨w.heap.size, 2, none⟩ = some (.slice a2 n2 c2) := X2.cell 2 (by simp)
      go_wp2
      go_loopw [8, 52] (fun _ i wr => ∃ (k : Nat) (v : Value), k ≤ n1 ∧ i = .int .i64 k ∧ Blk wr (w.heap.size + 1 + 1) [.slice b0 n0 k0, v, nilS, .map none, .map none] ∧ wr.ownsRow (W2.heap.size) 125 3 v k (recs (rowW A1 C1 A1' C1' ws) k) ∧ W2.grownBy wr (some (w.heap.size + 1 + 1))) (fun _ i _ => n1 - (intOf i).toNat)
      case atStart => exact ⟨0, nilS, Nat.zero_le _, rfl, O2, World.ownsRow_nil _ _ _ _, World.grownBy.refl _ _⟩
      case round =>
        obtain ⟨k, v, hk, rfl, hO, hown, hgr⟩ := hrel
        have hBr : Bel w wr := bel_grow hB2 hgr (fun k e => by injection e with e; omega)
        by_cases hlt : k < n1
        · have hkl : k < ws.length := by rw [E1.out]; exact hlt
          obtain ⟨b, off, rfl, hb, _, d0, _, _, d1, _, d2, _⟩ := HX1.out k hkl
          have d0 := bel_cellM hBr hb d0
          have d1 := bel_cellM hBr hb d1
          have d2 := bel_cellM hBr hb d2
          have o0 : wr.cell? ⟨w.heap.size + 1 + 1, 1, none⟩ = some v := hO.cell 1 (by simp)
          have hol := hO.lt
          have hO2 := (hO.bel (bel_alloc (Bel.refl wr) (.cells #[.int .i64 ws[k].id, .slice (A1 k) ws[k].nodes.length (C1 k), .slice (A1' k) ws[k].tags.length (C1' k)] 59))).bel (bel_alloc (Bel.refl _) (.cells #[.int .i64 ws[k].id, .slice (A1' k) ws[k].tags.length (C1' k), .slice (A1 k) ws[k].nodes.length (C1 k)] 125))
          have hown2 := World.ownsRow.alloc (World.ownsRow.alloc hown (.cells #[.int .i64 ws[k].id, .slice (A1 k) ws[k].nodes.length (C1 k), .slice (A1' k) ws[k].tags.length (C1' k)] 59)) (.cells #[.int .i64 ws[k].id, .slice (A1' k) ws[k].tags.length (C1' k), .slice (A1 k) ws[k].nodes.length (C1 k)] 125)
          have hgr2 := grown_step hgr (bel_alloc (bel_alloc (Bel.refl wr) (.cells #[.int .i64 ws[k].id, .slice (A1 k) ws[k].nodes.length (C1 k), .slice (A1' k) ws[k].tags.length (C1' k)] 59)) (.cells #[.int .i64 ws[k].id, .slice (A1' k) ws[k].tags.length (C1' k), .slice (A1 k) ws[k].nodes.length (C1 k)] 125))
          have hbr2 := bel_alloc (bel_alloc hBr (.cells #[.int .i64 ws[k].id, .slice (A1 k) ws[k].nodes.length (C1 k), .slice (A1' k) ws[k].tags.length (C1' k)] 59)) (.cells #[.int .i64 ws[k].id, .slice (A1' k) ws[k].tags.length (C1' k), .slice (A1 k) ws[k].nodes.length (C1 k)] 125)
          have hgs := hgr.size
          have HO : Hid (wr.ownsRow (W2.heap.size) 125 3 v k (recs (rowW A1 C1 A1' C1' ws) k)) := hown
          clear hown hO hgr
          go_wp2_with (first
            | (at_builtin; refine wpList_append_own _ rfl _ _ 72 rfl (W2.heap.size) 125 i1 (.agg #[.int .i64 0, .slice none 0 0, .slice none 0 0]) 3 56 Tryz.underlying72 hi1 hz10 hz11 hz12 rfl (by decide) _ _ _ rfl hown2 ⟨wr.heap.size + 1, 0, none⟩ 1 1 [.int .i64 ws[k].id, .slice (A1' k) ws[k].tags.length (C1' k), .slice (A1 k) ws[k].nodes.length (C1 k)] rfl rfl ?c1 ?c2 ?c3 ?c4 ?c5 ?_)
            | go_in)
          case c1 =>
            intro j u hj
            match j, hj with
            | 0, hj => simp at hj; subst hj; simp [Addr.add]
            | 1, hj => simp at hj; subst hj; simp [Addr.add]
            | 2, hj => simp at hj; subst hj; simp [Addr.add]
          case c2 =>
            intro u hu
            simp at hu
            rcases hu with rfl | rfl | rfl <;> rfl
          case c3 => unfold maxLen; omega
          case c4 => omega
          case c5 => simp; omega
          intro v' w3 hown' hgrow _
          obtain ⟨va, vc, rfl⟩ := own_shape hown'
          have hne : some (w.heap.size + 1 + 1) ≠ v.ownBlock := fun e => by have := (hown2.lt _ e.symm).1; omega
          have hO3 := hO2.grownR hgrow hne
          have p0 : w3.cell? ⟨w.heap.size + 1 + 1, 0, none⟩ = some (.slice b0 n0 k0) := hO3.cell 0 (by simp)
          have p1 : w3.cell? ⟨w.heap.size + 1 + 1, 1, none⟩ = some (v) := hO3.cell 1 (by simp)
          have p2 : w3.cell? ⟨w.heap.size + 1 + 1, 2, none⟩ = some (nilS) := hO3.cell 2 (by simp)
          have p3 : w3.cell? ⟨w.heap.size + 1 + 1, 3, none⟩ = some (.map none) := hO3.cell 3 (by simp)
          have p4 : w3.cell? ⟨w.heap.size + 1 + 1, 4, none⟩ = some (.map none) := hO3.cell 4 (by simp)
          have pf := hO3.free
          have hG3 : W2.grownBy w3 (some (w.heap.size + 1 + 1)) := hgr2.andThen hgrow (fun j e => .inl (by have := (hown2.lt j e).1; omega))
          have HO3 : Hid (w3.ownsRow (W2.heap.size) 125 3 (.slice va (k + 1) vc) (k + 1) (recs (rowW A1 C1 A1' C1' ws) (k + 1))) := by rw [recs_succ, rowW_at hkl]; exact hown'
          clear hown' hgrow hown2 hO2 hgr2 HO d0 d1 d2 o0
          go_wp2
          go_roundw
          case rel => exact ⟨k + 1, .slice va (k + 1) vc, by omega, by go_num, hO3.set 1 _ (by simp), own_kept HO3.out (grown_set (World.grownBy.refl w3 _) 1 _) (by omega), grown_set hG3 1 _⟩
          case measure => simp [intOf]; omega
        · have e : n1 = k := by omega
          subst e
          obtain ⟨b1, k1, q1, rfl, hR1, hq1⟩ := own_sl (E := WRecE) (l := ws) (R := rowW A1 C1 A1' C1' ws) E1.out (fun i => rfl) hown (fun i => f1 i ++ f1' i) (fun i hi b o G => by
            obtain ⟨_, _, _, _, i1, _, ml1, ml2, _, tt1, _, tt2⟩ := HX1.out i hi
            rw [rowW_at hi] at G
            exact ⟨i1, G 0 (by simp), A1 i, C1 i, A1' i, C1' i, f1 i, f1' i, rfl, ml1, ml2, G 2 (by simp), tt1.bel intE hBr, G 1 (by simp), tt2.bel tagE hBr⟩)
          have hc1 : w.heap.size + 1 + 1 ∉ q1 := fun hx => by
            rcases hq1 _ hx with h | ⟨i, hi, h⟩
            · omega
            · have := t1.lt wayE _ (hf1 i (by rw [E1.out]; exact hi) _ h); omega
          have hd1 : w.heap.size + 1 ∉ q1 := fun hx => by
            rcases hq1 _ hx with h | ⟨i, hi, h⟩
            · omega
            · have := t1.lt wayE _ (hf1 i (by rw [E1.out]; exact hi) _ h); omega
          clear hown
          have X3 := X2.grown hgr (by omega)
          have R3 := R2.grown hgr (by omega)
          have hR0 := hR0.grown nRecE hgr hc0
          have O3 := hO
          have hs3 := hgr.size
          have hB3 := hBr
          clear hO hBr hgr
          obtain ⟨W3, HW3⟩ : ∃ W, Hid (W = wr) := ⟨_, (rfl : wr = _)⟩
          rw [← HW3.out]
          rw [← HW3.out] at X3 R3 O3 hs3 hB3 hR0 hR1
          clear HW3
          have x30 : W3.cell? ⟨w.heap.size, 0, none⟩ = some (.slice a0 n0 c0) := X3.cell 0 (by simp)
          have x31 : W3.cell? ⟨w.heap.size, 1, none⟩ = some (.slice a1 n1 c1) := X3.cell 1 (by simp)
          have x32 : W3.cell? ⟨w.heap.size, 2, none⟩ = some (.slice a2 n2 c2) := X3.cell 2 (by simp)
          go_wp2
          go_loopw [10, 73] (fun _ i wr => ∃ (k : Nat) (v : Value), k ≤ n2 ∧ i = .int .i64 k ∧ Blk wr (w.heap.size + 1 + 1) [.slice b0 n0 k0, .slice b1 n1 k1, v, .map none, .map none] ∧ wr.ownsRow (W3.heap.size) 127 3 v k (recs (rowA A2 C2 A2' C2' rs) k) ∧ W3.grownBy wr (some (w.heap.size + 1 + 1))) (fun _ i _ => n2 - (intOf i).toNat)
          case atStart => exact ⟨0, nilS, Nat.zero_le _, rfl, O3, World.ownsRow_nil _ _ _ _, World.grownBy.refl _ _⟩
          case round =>
            obtain ⟨k, v, hk, rfl, hO, hown, hgr⟩ := hrel
            have hBr : Bel w wr := bel_grow hB3 hgr (fun k e => by injection e with e; omega)
            by_cases hlt : k < n2
            · have hkl : k < rs.length := by rw [E2.out]; exact hlt
              obtain ⟨b, off, rfl, hb, _, d0, _, _, d1, _, d2, _⟩ := HX2.out k hkl
              have d0 := bel_cellM hBr hb d0
              have d1 := bel_cellM hBr hb d1
              have d2 := bel_cellM hBr hb d2
              have o0 : wr.cell? ⟨w.heap.size + 1 + 1, 2, none⟩ = some v := hO.cell 2 (by simp)
              have hol := hO.lt
              have hO2 := (hO.bel (bel_alloc (Bel.refl wr) (.cells #[.int .i64 rs[k].id, .slice (A2 k) rs[k].parts.length (C2 k), .slice (A2' k) rs[k].tags.length (C2' k)] 110))).bel (bel_alloc (Bel.refl _) (.cells #[.int .i64 rs[k].id, .slice (A2' k) rs[k].tags.length (C2' k), .slice (A2 k) rs[k].parts.length (C2 k)] 127))
              have hown2 := World.ownsRow.alloc (World.ownsRow.alloc hown (.cells #[.int .i64 rs[k].id, .slice (A2 k) rs[k].parts.length (C2 k), .slice (A2' k) rs[k].tags.length (C2' k)] 110)) (.cells #[.int .i64 rs[k].id, .slice (A2' k) rs[k].tags.length (C2' k), .slice (A2 k) rs[k].parts.length (C2 k)] 127)
              have hgr2 := grown_step hgr (bel_alloc (bel_alloc (Bel.refl wr) (.cells #[.int .i64 rs[k].id, .slice (A2 k) rs[k].parts.length (C2 k), .slice (A2' k) rs[k].tags.length (C2' k)] 110)) (.cells #[.int .i64 rs[k].id, .slice (A2' k) rs[k].tags.length (C2' k), .slice (A2 k) rs[k].parts.length (C2 k)] 127))
              have hbr2 := bel_alloc (bel_alloc hBr (.cells #[.int .i64 rs[k].id, .slice (A2 k) rs[k].parts.length (C2 k), .slice (A2' k) rs[k].tags.length (C2' k)] 110)) (.cells #[.int .i64 rs[k].id, .slice (A2' k) rs[k].tags.length (C2' k), .slice (A2 k) rs[k].parts.length (C2 k)] 127)
              have hgs := hgr.size
              have HO : Hid (wr.ownsRow (W3.heap.size) 127 3 v k (recs (rowA A2 C2 A2' C2' rs) k)) := hown
              clear hown hO hgr
              go_wp2_with (first
                | (at_builtin; refine wpList_append_own _ rfl _ _ 73 rfl (W3.heap.size) 127 i2 (.agg #[.int .i64 0, .slice none 0 0, .slice none 0 0]) 3 56 Tryz.underlying73 hi2 hz20 hz21 hz22 rfl (by decide) _ _ _ rfl hown2 ⟨wr.heap.size + 1, 0, none⟩ 1 1 [.int .i64 rs[k].id, .slice (A2' k) rs[k].tags.length (C2' k), .slice (A2 k) rs[k].parts.length (C2 k)] rfl rfl ?c1 ?c2 ?c3 ?c4 ?c5 ?_)
                | go_in)
              case c1 =>
                intro j u hj
                match j, hj with
                | 0, hj => simp at hj; subst hj; simp [Addr.add]
                | 1, hj => simp at hj; subst hj; simp [Addr.add]
                | 2, hj => simp at hj; subst hj; simp [Addr.add]
              case c2 =>
                intro u hu
                simp at hu
                rcases hu with rfl | rfl | rfl <;> rfl
              case c3 => unfold maxLen; omega
              case c4 => omega
              case c5 => simp; omega
              intro v' w3 hown' hgrow _
              obtain ⟨va, vc, rfl⟩ := own_shape hown'
              have hne : some (w.heap.size + 1 + 1) ≠ v.ownBlock := fun e => by have := (hown2.lt _ e.symm).1; omega
              have hO3 := hO2.grownR hgrow hne
              have p0 : w3.cell? ⟨w.heap.size + 1 + 1, 0, none⟩ = some (.slice b0 n0 k0) := hO3.cell 0 (by simp)
              have p1 : w3.cell? ⟨w.heap.size + 1 + 1, 1, none⟩ = some (.slice b1 n1 k1) := hO3.cell 1 (by simp)
              have p2 : w3.cell? ⟨w.heap.size + 1 + 1, 2, none⟩ = some (v) := hO3.cell 2 (by simp)
              have p3 : w3.cell? ⟨w.heap.size + 1 + 1, 3, none⟩ = some (.map none) := hO3.cell 3 (by simp)
              have p4 : w3.cell? ⟨w.heap.size + 1 + 1, 4, none⟩ = some (.map none) := hO3.cell 4 (by simp)
              have pf := hO3.free
              have hG3 : W3.grownBy w3 (some (w.heap.size + 1 + 1)) := hgr2.andThen hgrow (fun j e => .inl (by have := (hown2.lt j e).1; omega))
              have HO3 : Hid (w3.ownsRow (W3.heap.size) 127 3 (.slice va (k + 1) vc) (k + 1) (recs (rowA A2 C2 A2' C2' rs) (k + 1))) := by rw [recs_succ, rowA_at hkl]; exact hown'
              clear hown' hgrow hown2 hO2 hgr2 HO d0 d1 d2 o0
              go_wp2
              go_roundw
              case rel => exact ⟨k + 1, .slice va (k + 1) vc, by omega, by go_num, hO3.set 2 _ (by simp), own_kept HO3.out (grown_set (World.grownBy.refl w3 _) 2 _) (by omega), grown_set hG3 2 _⟩
              case measure => simp [intOf]; omega
            · have e : n2 = k := by omega
              subst e
              obtain ⟨b2, k2, q2, rfl, hR2, hq2⟩ := own_sl (E := ARecE) (l := rs) (R := rowA A2 C2 A2' C2' rs) E2.out (fun i => rfl) hown (fun i => f2 i ++ f2' i) (fun i hi b o G => by
                obtain ⟨_, _, _, _, i1, _, ml1, ml2, _, tt1, _, tt2⟩ := HX2.out i hi
                rw [rowA_at hi] at G
                exact ⟨i1, G 0 (by simp), A2 i, C2 i, A2' i, C2' i, f2 i, f2' i, rfl, ml1, ml2, G 2 (by simp), tt1.bel partE hBr, G 1 (by simp), tt2.bel tagE hBr⟩)
              have hc2 : w.heap.size + 1 + 1 ∉ q2 := fun hx => by
                rcases hq2 _ hx with h | ⟨i, hi, h⟩
                · omega
                · have := t2.lt areaE _ (hf2 i (by rw [E2.out]; exact hi) _ h); omega
              have hd2 : w.heap.size + 1 ∉ q2 := fun hx => by
                rcases hq2 _ hx with h | ⟨i, hi, h⟩
                · omega
                · have := t2.lt areaE _ (hf2 i (by rw [E2.out]; exact hi) _ h); omega
              clear hown
              have X4 := X3.grown hgr (by omega)
              have R4 := R3.grown hgr (by omega)
              have hR0 := hR0.grown nRecE hgr hc0
              have hR1 := hR1.grown wRecE hgr hc1
              have O4 := hO
              have hs4 := hgr.size
              have hB4 := hBr
              clear hO hBr hgr
              obtain ⟨W4, HW4⟩ : ∃ W, Hid (W = wr) := ⟨_, (rfl : wr = _)⟩
              rw [← HW4.out]
              rw [← HW4.out] at X4 R4 O4 hs4 hB4 hR0 hR1 hR2
              clear HW4
              have x40 : W4.cell? ⟨w.heap.size, 0, none⟩ = some (.slice a0 n0 c0) := X4.cell 0 (by simp)
              have x41 : W4.cell? ⟨w.heap.size, 1, none⟩ = some (.slice a1 n1 c1) := X4.cell 1 (by simp)
              have x42 : W4.cell? ⟨w.heap.size, 2, none⟩ = some (.slice a2 n2 c2) := X4.cell 2 (by simp)
              go_wp2
              have g0 : Sx (w.heap.size + 1 + 1) (.slice b0 n0 k0) (.slice b1 n1 k1) (.slice b2 n2 k2) W4 W4 := ⟨World.grownBy.refl _ _, _, _, O4⟩
              have hR : ∀ w', Sx (w.heap.size + 1 + 1) (.slice b0 n0 k0) (.slice b1 n1 k1) (.slice b2 n2 k2) W4 w' → w'.cell? ⟨w.heap.size + 1 + 1, 0, none⟩ = some (.slice b0 n0 k0) ∧ w'.cell? ⟨w.heap.size + 1 + 1, 1, none⟩ = some (.slice b1 n1 k1) ∧ w'.frozen? ⟨w.heap.size + 1 + 1, 3, none⟩ = false ∧ w'.frozen? ⟨w.heap.size + 1 + 1, 4, none⟩ = false :=
                fun w' h => by obtain ⟨u3, u4, h⟩ := h.b; exact ⟨h.cell 0 (by simp), h.cell 1 (by simp), h.free 3, h.free 4⟩
              have hN0 : ∀ w', Sx (w.heap.size + 1 + 1) (.slice b0 n0 k0) (.slice b1 n1 k1) (.slice b2 n2 k2) W4 w' → NRecs w' b0 ns q0 := fun w' h => hR0.grown nRecE h.g hc0
              have hW0 : ∀ w', Sx (w.heap.size + 1 + 1) (.slice b0 n0 k0) (.slice b1 n1 k1) (.slice b2 n2 k2) W4 w' → WRecs w' b1 ws q1 := fun w' h => hR1.grown wRecE h.g hc1
              go_region_held3 (fun w' => Sx (w.heap.size + 1 + 1) (.slice b0 n0 k0) (.slice b1 n1 k1) (.slice b2 n2 k2) W4 w') (with_reducible (repeat (first | assumption | exact g0 | refine Sx.drew ?_ | refine Sx.set3 ?_ _ | refine Sx.set4 ?_ _ | refine Sx.bel (by assumption) (by assumption))))
                (first
                  | (go_at_call 54; refine (placesN_any _ _ _ ns q0 _ (hN0 _ (by assumption)) E0.out (by omega)).mono ?_; rintro e w5 ⟨bN, rfl, hbN, hMN, hb5⟩)
                  | (go_at_call 55; refine (placesW_any _ _ _ ws q1 _ (hW0 _ (by assumption)) E1.out (by omega)).mono ?_; rintro e w6 ⟨bW, rfl, hbW, hMW, hb6⟩; obtain ⟨u3, u4, hU⟩ := (Sx.bel (C := w.heap.size + 1 + 1) (s0 := .slice b0 n0 k0) (s1 := .slice b1 n1 k1) (s2 := .slice b2 n2 k2) (W := W4) (by assumption) hb6).b; have v3 : w6.cell? ⟨w.heap.size + 1 + 1, 3, none⟩ = some u3 := hU.cell 3 (by simp); have v4 : w6.cell? ⟨w.heap.size + 1 + 1, 4, none⟩ = some u4 := hU.cell 4 (by simp)))
              have hF : Sx (w.heap.size + 1 + 1) (.slice b0 n0 k0) (.slice b1 n1 k1) (.slice b2 n2 k2) W4 ((w6.setCell ⟨w.heap.size + 1 + 1, 3, none⟩ (.map (some bN))).setCell ⟨w.heap.size + 1 + 1, 4, none⟩ (.map (some bW))) := by assumption
              have hO5 : Blk ((w6.setCell ⟨w.heap.size + 1 + 1, 3, none⟩ (.map (some bN))).setCell ⟨w.heap.size + 1 + 1, 4, none⟩ (.map (some bW))) (w.heap.size + 1 + 1) [.slice b0 n0 k0, .slice b1 n1 k1, .slice b2 n2 k2, .map (some bN), .map (some bW)] := (hU.set 3 _ (by simp)).set 4 _ (by simp)
              have hs4' := O4.lt
              have hbN' : w.heap.size + 1 + 1 < bN := Nat.lt_of_lt_of_le hs4' hbN
              have hbW' : w.heap.size + 1 + 1 < bW := Nat.lt_of_lt_of_le hs4' (Nat.le_trans hb5.out.size hbW)
              have hg6 := grown_set (grown_set (World.grownBy.refl w6 (some (w.heap.size + 1 + 1))) 3 (.map (some bN))) 4 (.map (some bW))
              have hMN5 := (hMN.bel hb6).grown hg6 (by omega)
              have hMW5 := hMW.grown hg6 (by omega)
              have hN5 := hN0 _ hF
              have hW5 := hW0 _ hF
              have hA5 := hR2.grown aRecE hF.g hc2
              have R5 := R4.grown hF.g (by omega)
              have hB5 := bel_grow hB4 hF.g (fun k e => by injection e with e; omega)
              obtain ⟨W5, HW5⟩ : ∃ W, Hid (W = (w6.setCell ⟨w.heap.size + 1 + 1, 3, none⟩ (.map (some bN))).setCell ⟨w.heap.size + 1 + 1, 4, none⟩ (.map (some bW))) := ⟨_, (rfl : _ = _)⟩
              rw [← HW5.out]
              rw [← HW5.out] at hO5 hMN5 hMW5 hN5 hW5 hA5 R5 hB5
              clear HW5 hF hg6 hMN hMW hN0 hW0 hR0 hR1 hR2 R4 O4 X4 hU v3 v4 hR g0 hb5 hb6 hbN hbW
              have y50 : W5.cell? ⟨w.heap.size + 1 + 1, 0, none⟩ = some (.slice b0 n0 k0) := hO5.cell 0 (by simp)
              have y51 : W5.cell? ⟨w.heap.size + 1 + 1, 1, none⟩ = some (.slice b1 n1 k1) := hO5.cell 1 (by simp)
              have y52 : W5.cell? ⟨w.heap.size + 1 + 1, 2, none⟩ = some (.slice b2 n2 k2) := hO5.cell 2 (by simp)
              have y53 : W5.cell? ⟨w.heap.size + 1 + 1, 3, none⟩ = some (.map (some bN)) := hO5.cell 3 (by simp)
              have y54 : W5.cell? ⟨w.heap.size + 1 + 1, 4, none⟩ = some (.map (some bW)) := hO5.cell 4 (by simp)
              go_wp2_with fail
              refine (chartOk_any _ _ _ _ _ _ _ _ _ _ _ ns ws rs q0 q1 q2 _ hN5 E0.out (by omega) u0 hW5 E1.out (by omega) u1 hA5 E2.out (by omega) u2 hMN5 hMW5).mono ?_
              rintro e w7 ⟨rfl, hb7⟩
              have hB7 := bel_step hB5 hb7
              have hO7 := hO5.bel hb7
              have R7 := R5.bel hb7
              have y70 : w7.cell? ⟨w.heap.size + 1 + 1, 0, none⟩ = some (.slice b0 n0 k0) := hO7.cell 0 (by simp)
              have r70 : w7.cell? ⟨w.heap.size + 1, 0, none⟩ = some (nilS) := R7.cell 0 (by simp)
              have y71 : w7.cell? ⟨w.heap.size + 1 + 1, 1, none⟩ = some (.slice b1 n1 k1) := hO7.cell 1 (by simp)
              have r71 : w7.cell? ⟨w.heap.size + 1, 1, none⟩ = some (nilS) := R7.cell 1 (by simp)
              have y72 : w7.cell? ⟨w.heap.size + 1 + 1, 2, none⟩ = some (.slice b2 n2 k2) := hO7.cell 2 (by simp)
              have r72 : w7.cell? ⟨w.heap.size + 1, 2, none⟩ = some (nilS) := R7.cell 2 (by simp)
              have y73 : w7.cell? ⟨w.heap.size + 1 + 1, 3, none⟩ = some (.map (some bN)) := hO7.cell 3 (by simp)
              have r73 : w7.cell? ⟨w.heap.size + 1, 3, none⟩ = some (.map none) := R7.cell 3 (by simp)
              have y74 : w7.cell? ⟨w.heap.size + 1 + 1, 4, none⟩ = some (.map (some bW)) := hO7.cell 4 (by simp)
              have r74 : w7.cell? ⟨w.heap.size + 1, 4, none⟩ = some (.map none) := R7.cell 4 (by simp)
              have f7 := R7.free
              have hN7 := hN5.bel nRecE hb7
              have hW7 := hW5.bel wRecE hb7
              have hA7 := hA5.bel aRecE hb7
              have hMN7 := hMN5.bel hb7
              have hMW7 := hMW5.bel hb7
              clear hb7 hO5 R5 hN5 hW5 hA5 hMN5 hMW5 y50 y51 y52 y53 y54 hO7 R7 hB5
              cases hp : bP (ChartP ns ws rs n0 n1 n2)
              · go_wp2
                refine bodyPost_ret (v := .tuple #[chZ, .bool false]) (by simp [results, Tryz.results26, go_sem, r70, r71, r72, r73, r74]) rfl (.inr ⟨hp, rfl, ?_⟩)
                (with_reducible repeat (first | exact hB7 | refine bel_set ?_ ?_ _)) <;> simp <;> omega
              · have hG : ∀ W, w7.grownBy W (some (w.heap.size + 1)) → Bel w W → NRecs W b0 ns q0 ∧ WRecs W b1 ws q1 ∧ ARecs W b2 rs q2 ∧ MapAt W bN n0 (plc (nId ns) n0) ∧ MapAt W bW n1 (plc (wId ws) n1) ∧ Bel w W := fun W h hb => ⟨hN7.grown nRecE h hd0, hW7.grown wRecE h hd1, hA7.grown aRecE h hd2, hMN7.grown h (by omega), hMW7.grown h (by omega), hb⟩
                clear hN7 hW7 hA7 hMN7 hMW7
                go_wp2
                refine bodyPost_ret (v := .tuple #[chV b0 n0 k0 b1 n1 k1 b2 n2 k2 bN bW, .bool true]) (by simp [results, Tryz.results26, go_sem, r70, r71, r72, r73, r74]) rfl (.inl ⟨hp, b0, k0, b1, k1, b2, k2, bN, bW, q0, q1, q2, rfl, hG _ ?_ ?_⟩)
                · with_reducible repeat (first | exact World.grownBy.refl _ _ | refine grown_set ?_ _ _)
                · (with_reducible repeat (first | exact hB7 | refine bel_set ?_ ?_ _)) <;> simp <;> omega
end Go.Proofs.YtldfcnlhjjiihaaGreat

namespace Go.Proofs.YtldfcnlhjjiihaaGreat
open Go.RowKit Go.Maps

/-- An element that leads nowhere: its cells. -/
structure Flat {α : Type} (q : Nat) (E : Elem α) (P : α → Prop) (cs : α → List Value) : Prop where
  len : ∀ d, (cs d).length = q
  one : ∀ d, ∀ u ∈ cs d, u.oneCell' = true
  get : ∀ {w : World} {b o : Nat} {d : α} {bs : List Nat}, E w b o d bs → P d ∧ ∀ j (h : j < (cs d).length), w.cell? ⟨b, o + j, none⟩ = some (cs d)[j]
  lay : ∀ {w : World} {b o : Nat} {d : α}, P d → (∀ j (h : j < (cs d).length), w.cell? ⟨b, o + j, none⟩ = some (cs d)[j]) → E w b o d []
def flatV {α : Type} (P : α → Prop) (cs : α → List Value) : VElem α := fun _ vs d bs => bs = [] ∧ P d ∧ vs = cs d
theorem Flat.stays {α : Type} {q : Nat} {E : Elem α} {P : α → Prop} {cs : α → List Value} (hF : Flat q E P cs) : VStays q E (flatV P cs) :=
  ⟨fun ⟨_, _, e⟩ => by rw [e]; exact hF.len _, fun ⟨_, _, e⟩ => by rw [e]; exact hF.one _, fun h _ => h, fun ⟨e, _⟩ x hx => by rw [e] at hx; (exact nomatch hx), fun ⟨e, hp, hv⟩ hc => by subst e; subst hv; exact hF.lay hp hc⟩
def csL {α : Type} (q : Nat) (cs : α → List Value) (l : List α) (i : Nat) : List Value := if h : i < l.length then cs l[i] else List.replicate q (.bool false)
theorem csL_at {α : Type} {q : Nat} {cs : α → List Value} {l : List α} {i : Nat} (h : i < l.length) : csL q cs l i = cs l[i] := by simp [csL, h]
theorem csL_len {α : Type} {q : Nat} {E : Elem α} {P : α → Prop} {cs : α → List Value} (hF : Flat q E P cs) (l : List α) (i : Nat) : (csL q cs l i).length = q := by
  unfold csL
  split
  · exact hF.len _
  · simp
theorem addr_add (b off j : Nat) : (⟨b, off, none⟩ : Addr).add j = ⟨b, off + j, none⟩ := by unfold Addr.add; split <;> simp_all
theorem Flat.news {α : Type} {q : Nat} {E : Elem α} {P : α → Prop} {cs : α → List Value} (hF : Flat q E P cs) (hq : 0 < q) {w : World} {b off : Nat} {l : List α} {f : Nat → List Nat} (hx : ∀ i (h : i < l.length), E w b (off + i * q) l[i] (f i)) :
    ∀ j u, (recs (csL q cs l) l.length)[j]? = some u → w.cell? ((⟨b, off, none⟩ : Addr).add j) = some u := by
  intro j u hu
  rw [addr_add]
  have hlt : j < l.length * q := by
    have := (List.getElem?_eq_some_iff.1 hu).1
    rwa [recs_len (csL_len hF l)] at this
  have hi : j / q < l.length := Nat.div_lt_of_lt_mul (by rw [Nat.mul_comm]; exact hlt)
  have hr : j % q < q := Nat.mod_lt _ hq
  have e : j = j / q * q + j % q := by rw [Nat.mul_comm]; exact (Nat.div_add_mod j q).symm
  rw [e, recs_at (csL_len hF l) hr _ hi, csL_at hi] at hu
  obtain ⟨hj, hu⟩ := List.getElem?_eq_some_iff.1 hu
  rw [e, ← Nat.add_assoc, (hF.get (hx _ hi)).2 _ hj, hu]
theorem Flat.ones {α : Type} {q : Nat} {E : Elem α} {P : α → Prop} {cs : α → List Value} (hF : Flat q E P cs) (l : List α) : ∀ u ∈ recs (csL q cs l) l.length, u.oneCell' = true := by
  intro u hu
  obtain ⟨i, hi, hu⟩ := List.mem_flatMap.1 hu
  rw [csL_at (List.mem_range.1 hi)] at hu
  exact hF.one _ u hu
theorem Flat.out {α : Type} {q : Nat} {E : Elem α} {P : α → Prop} {cs : α → List Value} (hF : Flat q E P cs) {T : TypeId} {lo : Nat} {w : World} {v : Value} {l : List α} (h : w.ownsRow lo T q v l.length (recs (csL q cs l) l.length)) (hP : ∀ i (h : i < l.length), P l[i]) :
    ∃ a c bs, v = .slice a l.length c ∧ Sl q E w a l bs ∧ Mine lo w bs :=
  Gr.out hF.stays (f := fun _ => []) ⟨h, csL_len hF l, fun i hi => ⟨rfl, hP i hi, csL_at hi⟩, (fun _ _ x hx => nomatch hx), by rw [show (List.range l.length).flatMap (fun _ => ([] : List Nat)) = [] from List.flatMap_eq_nil_iff.2 (fun _ _ => rfl)]; exact List.nodup_nil⟩

def TagP (d : TagD) : Prop := d.k.size ≤ maxLen ∧ d.v.size ≤ maxLen
def tagCs (d : TagD) : List Value := [.string d.k, .string d.v]
theorem tagF : Flat 2 TagE TagP tagCs :=
  ⟨fun _ => rfl, fun _ u hu => by simp only [tagCs, List.mem_cons, List.not_mem_nil, or_false] at hu; rcases hu with rfl | rfl <;> rfl,
    fun ⟨_, h1, h2, h3, h4⟩ => ⟨⟨h1, h2⟩, fun j hj => by match j, hj with | 0, _ => exact h3 | 1, _ => exact h4⟩,
    fun hp hc => ⟨rfl, hp.1, hp.2, hc 0 (by simp [tagCs]), hc 1 (by simp [tagCs])⟩⟩
theorem run_append_zero {P : Program} {w : World} (base : Nat) (t ty e : TypeId) (i : TypeInfo) (size : Nat) (ht : P.underlying t = some (.slice e)) (hi : P.info? e = some i)
    (v : Value) (n : Nat) (xs : List Value) (hown : w.ownsRow base e size v n xs) (a : Option Addr) (c : Nat) :
    (Builtin.append_ #[t, t] ty #[v, .slice a 0 c]).run P w = .ok v w := by
  cases a with
  | none =>
    rcases hown.2 with ⟨rfl, rfl⟩ | ⟨g, cap, cur, rfl, _, _, hnc, _⟩
    · simp [Builtin.append_, run_underlying ht, sizeOf, typeInfo, hi, Builtin.lenOf, Builtin.firstCells]
    · simp [Builtin.append_, run_underlying ht, sizeOf, typeInfo, hi, Builtin.lenOf, Builtin.firstCells, hnc, storeCells]
  | some ad =>
    rcases hown.2 with ⟨rfl, rfl⟩ | ⟨g, cap, cur, rfl, _, _, hnc, _⟩
    · simp [Builtin.append_, run_underlying ht, sizeOf, typeInfo, hi, Builtin.lenOf, Builtin.firstCells, loadCells, loadCellsFrom]
    · simp [Builtin.append_, run_underlying ht, sizeOf, typeInfo, hi, Builtin.lenOf, Builtin.firstCells, hnc, storeCells, loadCells, loadCellsFrom]
theorem wpList_append_zero {P : Program} {w : World} {ops : Array Oper} {rest : List Oper} {o : Oper} {a : Act} {Q : Exit → Act → World → Prop} (hgd : o.guard = none) (s x : Operand) (t : TypeId)
    (ho : o.op = .call { callee := .builtin .append, args := #[s, x], argTypes := #[t, t] })
    (base : Nat) (e : TypeId) (i : TypeInfo) (size : Nat) (ht : P.underlying t = some (.slice e)) (hi : P.info? e = some i)
    (v : Value) (n : Nat) (xs : List Value) (hs : a.eval s = v) (hown : w.ownsRow base e size v n xs) (b : Option Addr) (c : Nat) (hx : a.eval x = .slice b 0 c)
    (h : wpList P ops Q rest (a.put o.dst v) w) : wpList P ops Q (o :: rest) a w := by
  refine wpList_plain hgd fun K hK => ?_
  have hrun := run_append_zero (P := P) (w := w) base t o.type e i size ht hi v n xs hown b c
  unfold Oper.wp
  simp [execOp, ho, resolve, invoke, builtin, hs, hx, hrun, Result.andThen]
  exact hK _ _ h
theorem Alike.set {w a : World} {bs : List Nat} (h : Alike w a bs) {B : Nat} (hB : B ∉ bs) (o : Nat) (u : Value) : Alike w (a.setCell ⟨B, o, none⟩ u) bs := fun b hb => by
  obtain ⟨h1, h2, h3⟩ := h b hb
  refine ⟨by simpa [World.setCell] using h1, fun j => ?_, fun j => by rw [World.frozen?_setCell]; exact h3 j⟩
  rw [World.cell?_setCell_other _ _ _ _ (fun e => hB (by have := congrArg Addr.block e; simp at this; rw [this]; exact hb))]
  exact h2 j
theorem Alike.refl {w : World} {bs : List Nat} (h : ∀ x ∈ bs, x < w.heap.size) : Alike w w bs := fun b hb => ⟨h b hb, fun _ => rfl, fun _ => rfl⟩
theorem Mine.alike {lo : Nat} {w w' : World} {bs : List Nat} (h : Mine lo w bs) (hA : Alike w w' bs) : Mine lo w' bs :=
  ⟨h.nd, fun b hm => ⟨(h.new b hm).1, (hA b hm).1⟩, fun b hm j => by rw [(hA b hm).2.2 j]; exact h.free b hm j⟩

/-- append of a plain list to an empty row of the call's own. -/
theorem wpList_append_flat {α : Type} {q : Nat} {E : Elem α} {G : α → Prop} {cs : α → List Value} (hF : Flat q E G cs) (hq : 0 < q) {P : Program} {w : World} {ops : Array Oper} {rest : List Oper} {o : Oper} {a : Act} {Q : Exit → Act → World → Prop} (hgd : o.guard = none) (s x : Operand) (t : TypeId)
    (ho : o.op = .call { callee := .builtin .append, args := #[s, x], argTypes := #[t, t] })
    (base : Nat) (e : TypeId) (i : TypeInfo) (z : Value) (bytes : Nat) (ht : P.underlying t = some (.slice e)) (hi : P.info? e = some i) (hz : i.zero = some z) (hsize : i.size = q) (hby : i.bytes = bytes) (hzs : z.cells.size = q)
    (v : Value) (hs : a.eval s = v) (hown : w.ownsRow base e q v 0 []) (ad : Option Addr) (n c : Nat) (l : List α) (bs : List Nat) (hx : a.eval x = .slice ad n c) (hT : Sl q E w ad l bs) (hn : l.length = n) (hm : n ≤ 1048576) (hb64 : bytes ≤ 64) (hbase : base ≤ w.heap.size)
    (h : ∀ a' c' bs' w', Sl q E w' a' l bs' → Mine base w' bs' → w.grownBy w' v.ownBlock → wpList P ops Q rest (a.put o.dst (.slice a' n c')) w') : wpList P ops Q (o :: rest) a w := by
  subst hn
  by_cases h0 : l.length = 0
  · obtain ⟨a', c', e'⟩ := own_shape hown
    have hl : l = [] := List.length_eq_zero_iff.1 h0
    subst hl
    refine wpList_append_zero hgd s x t ho base e i q ht hi v 0 [] hs hown ad c hx ?_
    rw [e']
    exact h a' c' [] w Sl.nil ⟨List.nodup_nil, (fun _ h => nomatch h), (fun _ h => nomatch h)⟩ (World.grownBy.refl _ _)
  · obtain ⟨b, off, f, rfl, hb, hxx⟩ := hT.out (k := 0) (by omega)
    refine wpList_append_own w hgd s x t ho base e i z q bytes ht hi hz hsize hby hzs hq v 0 [] hs hown ⟨b, off, none⟩ l.length c (recs (csL q cs l) l.length) hx (recs_len (csL_len hF l) _) (hF.news hq hxx) (hF.ones l) (by unfold maxLen; omega) (by
      rw [Nat.zero_add]
      exact Nat.le_trans (Nat.mul_le_mul hm hb64) (by decide)) hbase ?_
    intro v' w' hown' hgrow _
    rw [Nat.zero_add, List.nil_append] at hown'
    obtain ⟨a', c', bs', rfl, HS, HM⟩ := hF.out hown' (fun i hi => (hF.get (hxx i hi)).1)
    exact h a' c' bs' w' HS HM hgrow
end Go.Proofs.YtldfcnlhjjiihaaGreat
