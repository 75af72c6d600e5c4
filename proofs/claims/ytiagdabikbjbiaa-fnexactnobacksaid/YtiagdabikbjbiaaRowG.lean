/-
  A row that a call builds by append, whose elements lead to memory of the call's own, too: how it grows, and how it is read.
-/
import Derived.Test.YtiagdabikbjbiaaOwnR
namespace Go.Proofs.Ytiagdabikbjbiaa
open Go.RowKit Go.Maps

/-- What an element's cells say, wherever they lie: the datum, and the blocks that it leads to. -/
abbrev VElem (α : Type) := World → List Value → α → List Nat → Prop
structure VStays {α : Type} (q : Nat) (E : Elem α) (V : VElem α) : Prop where
  len : ∀ {w : World} {vs : List Value} {d : α} {bs : List Nat}, V w vs d bs → vs.length = q
  one : ∀ {w : World} {vs : List Value} {d : α} {bs : List Nat}, V w vs d bs → ∀ u ∈ vs, u.oneCell' = true
  alike : ∀ {w w' : World} {vs : List Value} {d : α} {bs : List Nat}, V w vs d bs → Alike w w' bs → V w' vs d bs
  lt : ∀ {w : World} {vs : List Value} {d : α} {bs : List Nat}, V w vs d bs → ∀ x ∈ bs, x < w.heap.size
  put : ∀ {w : World} {vs : List Value} {d : α} {bs : List Nat} {b o : Nat}, V w vs d bs → (∀ j (h : j < vs.length), w.cell? ⟨b, o + j, none⟩ = some vs[j]) → E w b o d bs

def updF {β : Type} (g : Nat → β) (n : Nat) (x : β) : Nat → β := fun i => if i = n then x else g i
theorem updF_old {β : Type} (g : Nat → β) {n i : Nat} (x : β) (h : i < n) : updF g n x i = g i := by simp [updF, show i ≠ n by omega]
theorem updF_new {β : Type} (g : Nat → β) (n : Nat) (x : β) : updF g n x n = x := by simp [updF]
theorem range_upd {β : Type} (g : Nat → List β) (x : List β) (n : Nat) : (List.range (n + 1)).flatMap (updF g n x) = (List.range n).flatMap g ++ x := by
  rw [List.range_succ, List.flatMap_append]
  congr 1
  · exact congrArg List.flatten (List.map_congr_left fun i hi => updF_old g x (List.mem_range.1 hi))
  · simp [updF_new]
theorem alike_row {w w' : World} {row : Option Nat} (h : w.grownBy w' row) {bs : List Nat} (hs : ∀ x ∈ bs, x < w.heap.size ∧ some x ≠ row) : Alike w w' bs := fun b hb => by
  have e := h.block b (hs b hb).1 (hs b hb).2
  exact ⟨Nat.lt_of_lt_of_le (hs b hb).1 h.size, fun o => World.cell?_of_block (a := ⟨b, o, none⟩) e, fun o => World.frozen?_of_block (a := ⟨b, o, none⟩) e⟩

/-- A row that is being built; lo: all its memory lies from there on. -/
structure Gr {α : Type} (q : Nat) (V : VElem α) (T : TypeId) (lo : Nat) (w : World) (v : Value) (l : List α) (R : Nat → List Value) (f : Nat → List Nat) : Prop where
  own : w.ownsRow lo T q v l.length (recs R l.length)
  len : ∀ i, (R i).length = q
  el : ∀ i (h : i < l.length), V w (R i) l[i] (f i)
  sub : ∀ i, i < l.length → ∀ x ∈ f i, lo ≤ x ∧ x < w.heap.size ∧ (∀ j, w.frozen? ⟨x, j, none⟩ = false) ∧ v.ownBlock ≠ some x
  nd : ((List.range l.length).flatMap f).Nodup

theorem Gr.nil {α : Type} (q : Nat) (V : VElem α) (T : TypeId) (lo : Nat) (w : World) : Gr q V T lo w (.slice none 0 0) [] (fun _ => List.replicate q (.bool false)) (fun _ => []) :=
  ⟨World.ownsRow_nil _ _ _ _, fun _ => by simp, fun i h => absurd h (Nat.not_lt_zero _), fun i h => absurd h (Nat.not_lt_zero _), by simp⟩

theorem Gr.alike {α : Type} {q : Nat} {E : Elem α} {V : VElem α} (hS : VStays q E V) {T : TypeId} {lo : Nat} {w w' : World} {v : Value} {l : List α} {R : Nat → List Value} {f : Nat → List Nat} (h : Gr q V T lo w v l R f)
    (ho : w'.ownsRow lo T q v l.length (recs R l.length)) (hA : ∀ i, i < l.length → Alike w w' (f i)) : Gr q V T lo w' v l R f :=
  ⟨ho, h.len, fun i hi => hS.alike (h.el i hi) (hA i hi), fun i hi x hx => ⟨(h.sub i hi x hx).1, (hA i hi x hx).1, fun j => by rw [(hA i hi x hx).2.2 j]; exact (h.sub i hi x hx).2.2.1 j, (h.sub i hi x hx).2.2.2⟩, h.nd⟩

theorem Gr.bel {α : Type} {q : Nat} {E : Elem α} {V : VElem α} (hS : VStays q E V) {T : TypeId} {lo : Nat} {w w' : World} {v : Value} {l : List α} {R : Nat → List Value} {f : Nat → List Nat} (h : Gr q V T lo w v l R f) (hb : Bel w w') : Gr q V T lo w' v l R f :=
  h.alike hS (own_bel h.own hb) fun i hi => Alike.bel hb fun x hx => (h.sub i hi x hx).2.1

theorem Gr.far {α : Type} {q : Nat} {E : Elem α} {V : VElem α} (hS : VStays q E V) {T : TypeId} {lo : Nat} {w w' : World} {v : Value} {l : List α} {R : Nat → List Value} {f : Nat → List Nat} {C : Nat} (h : Gr q V T lo w v l R f) (hg : w.grownBy w' (some C)) (hC : C < lo) : Gr q V T lo w' v l R f :=
  h.alike hS (own_kept h.own hg hC) fun i hi => grown_alike hg (fun x hx => (h.sub i hi x hx).2.1) fun hx => by have := (h.sub i hi C hx).1; omega

/-- One element more: w0 the row's world, w1 that behind the making of the element, w2 that behind the list of one, w3 that behind append. -/
theorem Gr.add {α : Type} {q : Nat} {E : Elem α} {V : VElem α} (hS : VStays q E V) {T : TypeId} {lo : Nat} {w0 w1 w2 w3 : World} {v v' : Value} {l : List α} {R : Nat → List Value} {f : Nat → List Nat} (h : Gr q V T lo w0 v l R f)
    (h01 : Bel w0 w1) (h12 : Bel w1 w2) {vs : List Value} {d : α} {bs : List Nat} (hv : V w1 vs d bs) (hF : Fresh w0 w1 bs) (hlo : lo ≤ w0.heap.size)
    (ho : w3.ownsRow lo T q v' (l.length + 1) (recs R l.length ++ vs)) (hg : w2.grownBy w3 v.ownBlock) (hat : v'.ownBlock = v.ownBlock ∨ v'.ownBlock = some w2.heap.size) :
    Gr q V T lo w3 v' (l ++ [d]) (updF R l.length vs) (updF f l.length bs) := by
  have h02 := bel_step h01 h12
  have g2 := h.bel hS h02
  have hvo : ∀ g, v.ownBlock = some g → g < w0.heap.size := fun g e => (h.own.lt g e).2
  have hA : ∀ i, i < l.length → Alike w2 w3 (f i) := fun i hi => alike_row hg fun x hx => ⟨(g2.sub i hi x hx).2.1, fun e => (g2.sub i hi x hx).2.2.2 e.symm⟩
  have hlt1 := hS.lt hv
  have hAn : Alike w2 w3 bs := alike_row hg fun x hx => ⟨bel_lt h12 (hlt1 x hx), fun e => by have := hvo x e.symm; have := (hF.new x hx).1; omega⟩
  have hne : ∀ x, x < w2.heap.size → v.ownBlock ≠ some x → v'.ownBlock ≠ some x := fun x hx h1 h2 => by
    rcases hat with e | e
    · rw [e] at h2; exact h1 h2
    · rw [e] at h2; injection h2 with h2; omega
  have hl : (l ++ [d]).length = l.length + 1 := by simp
  refine ⟨?_, ?_, ?_, ?_, ?_⟩
  · rw [hl]
    have : recs (updF R l.length vs) (l.length + 1) = recs R l.length ++ vs := by unfold recs; exact range_upd R vs l.length
    rw [this]
    exact ho
  · intro i
    by_cases e : i = l.length
    · subst e; rw [updF_new]; exact hS.len hv
    · unfold updF; rw [if_neg e]; exact h.len i
  · intro i hi
    rw [hl] at hi
    by_cases e : i = l.length
    · subst e
      rw [updF_new, updF_new]
      have : (l ++ [d])[l.length]'(by simp) = d := by simp
      rw [this]
      exact hS.alike (hS.alike hv (Alike.bel h12 hlt1)) hAn
    · have hi' : i < l.length := by omega
      rw [updF_old _ _ hi', updF_old _ _ hi', List.getElem_append_left hi']
      exact hS.alike (g2.el i hi') (hA i hi')
  · intro i hi x hx
    rw [hl] at hi
    by_cases e : i = l.length
    · subst e
      rw [updF_new] at hx
      have hb := bel_lt h12 (hlt1 x hx)
      refine ⟨Nat.le_trans hlo (hF.new x hx).1, (hAn x hx).1, fun j => ?_, hne x hb fun e => ?_⟩
      · rw [(hAn x hx).2.2 j, h12.out.frozen (p := ⟨x, j, none⟩) (hlt1 x hx)]; exact hF.free x hx j
      · have := hvo x e; have := (hF.new x hx).1; omega
    · have hi' : i < l.length := by omega
      rw [updF_old _ _ hi'] at hx
      obtain ⟨s1, s2, s3, s4⟩ := g2.sub i hi' x hx
      exact ⟨s1, (hA i hi' x hx).1, fun j => by rw [(hA i hi' x hx).2.2 j]; exact s3 j, hne x s2 s4⟩
  · rw [hl, range_upd]
    refine List.nodup_append.2 ⟨h.nd, hF.nd, fun a ha b hb e => ?_⟩
    subst e
    obtain ⟨i, hi, hx⟩ := List.mem_flatMap.1 ha
    have := (h.sub i (List.mem_range.1 hi) a hx).2.1
    have := (hF.new a hb).1
    omega

/-- A row of the call's own, as it is read: blocks from lo on, each once, writable. -/
structure Mine (lo : Nat) (w : World) (bs : List Nat) : Prop where
  nd : bs.Nodup
  new : ∀ x ∈ bs, lo ≤ x ∧ x < w.heap.size
  free : ∀ x ∈ bs, ∀ j, w.frozen? ⟨x, j, none⟩ = false
theorem Mine.bel {lo : Nat} {w w' : World} {bs : List Nat} (h : Mine lo w bs) (hb : Bel w w') : Mine lo w' bs :=
  ⟨h.nd, fun b hm => ⟨(h.new b hm).1, bel_lt hb (h.new b hm).2⟩, fun b hm j => by rw [hb.out.frozen (p := ⟨b, j, none⟩) (h.new b hm).2]; exact h.free b hm j⟩
theorem Mine.fresh {lo : Nat} {w w' : World} {bs : List Nat} (h : Mine lo w' bs) (hl : w.heap.size ≤ lo) : Fresh w w' bs := ⟨h.nd, fun b hm => ⟨Nat.le_trans hl (h.new b hm).1, (h.new b hm).2⟩, h.free⟩
theorem Mine.app {lo lo' : Nat} {w w' : World} {bs cs : List Nat} (h : Mine lo w bs) (hb : Bel w w') (k : Mine lo' w' cs) (hl : w.heap.size ≤ lo') (hll : lo ≤ lo') : Mine lo w' (bs ++ cs) := by
  have h' := h.bel hb
  refine ⟨List.nodup_append.2 ⟨h.nd, k.nd, fun a ha b hb e => ?_⟩, fun b hm => (List.mem_append.1 hm).elim (h'.new b) fun hm => ⟨Nat.le_trans hll (k.new b hm).1, (k.new b hm).2⟩, fun b hm => (List.mem_append.1 hm).elim (h'.free b) (k.free b)⟩
  subst e
  have := (h.new a ha).2
  have := (k.new a hb).1
  omega

theorem Gr.out {α : Type} {q : Nat} {E : Elem α} {V : VElem α} (hS : VStays q E V) {T : TypeId} {lo : Nat} {w : World} {v : Value} {l : List α} {R : Nat → List Value} {f : Nat → List Nat} (h : Gr q V T lo w v l R f) :
    ∃ a c bs, v = .slice a l.length c ∧ Sl q E w a l bs ∧ Mine lo w bs := by
  rcases Nat.eq_zero_or_pos l.length with z | z
  · obtain rfl : l = [] := List.length_eq_zero_iff.1 z
    rcases h.own.2 with ⟨rfl, _⟩ | ⟨g, cap, cur, rfl, _⟩
    · exact ⟨_, _, [], rfl, Sl.nil, List.nodup_nil, (fun _ h => nomatch h), (fun _ h => nomatch h)⟩
    · exact ⟨_, _, [], rfl, Sl.nil, List.nodup_nil, (fun _ h => nomatch h), (fun _ h => nomatch h)⟩
  · have hown := h.own
    rcases h.own.2 with ⟨_, hz⟩ | ⟨g, cap, cur, rfl, hg, e3, _⟩
    · omega
    · have hlt : g < w.heap.size := by
        rcases Nat.lt_or_ge g w.heap.size with h | h
        · exact h
        · rw [Array.getElem?_eq_none h] at e3; cases e3
      refine ⟨_, cap, g :: (List.range l.length).flatMap f, rfl, .inr ⟨g, 0, f, rfl, hlt, rfl, fun i hi => hS.put (h.el i hi) fun j hj => ?_⟩, List.nodup_cons.2 ⟨fun hm => ?_, h.nd⟩, fun x hx => ?_, fun x hx j => ?_⟩
      · have hj' : j < q := by rw [h.len] at hj; exact hj
        have h2 : i * q + q ≤ l.length * q := by have := Nat.mul_le_mul_right q (show i + 1 ≤ l.length by omega); rw [Nat.add_mul, Nat.one_mul] at this; exact this
        rw [Nat.zero_add, hown.cellAt (i * q + j) (by omega), recs_at h.len hj' l.length hi, List.getElem?_eq_getElem hj]
      · obtain ⟨i, hi, hx⟩ := List.mem_flatMap.1 hm
        exact (h.sub i (List.mem_range.1 hi) g hx).2.2.2 rfl
      · rcases List.mem_cons.1 hx with rfl | hx
        · exact ⟨hg, hlt⟩
        · obtain ⟨i, hi, hx⟩ := List.mem_flatMap.1 hx
          have := h.sub i (List.mem_range.1 hi) x hx
          exact ⟨this.1, this.2.1⟩
      · rcases List.mem_cons.1 hx with rfl | hx
        · simp [World.frozen?, e3]
        · obtain ⟨i, hi, hx⟩ := List.mem_flatMap.1 hx
          exact (h.sub i (List.mem_range.1 hi) x hx).2.2.1 j

/-- Nodes, ways and areas by their cells. -/
def NodeV : VElem NodeD := fun w vs d bs => In64 d.id ∧ In64 d.x ∧ In64 d.y ∧ d.tags.length ≤ maxLen ∧ ∃ a c, vs = [.int .i64 d.id, .int .i64 d.x, .int .i64 d.y, .slice a d.tags.length c] ∧ Tags w a d.tags bs
theorem nodeV : VStays 4 NodeE NodeV :=
  ⟨fun ⟨_, _, _, _, a, c, e, _⟩ => by rw [e]; rfl, fun ⟨_, _, _, _, a, c, e, _⟩ u hu => by
      subst e; simp only [List.mem_cons, List.not_mem_nil, or_false] at hu; rcases hu with rfl | rfl | rfl | rfl <;> rfl,
    fun ⟨h1, h2, h3, h4, a, c, e, h5⟩ hA => ⟨h1, h2, h3, h4, a, c, e, h5.alike tagE hA⟩, fun ⟨_, _, _, _, a, c, e, h5⟩ => h5.lt tagE,
    fun ⟨h1, h2, h3, h4, a, c, e, h5⟩ hc => by subst e; exact ⟨h1, h2, h3, hc 0 (by simp), hc 1 (by simp), hc 2 (by simp), a, c, h4, hc 3 (by simp), h5⟩⟩
def WayV : VElem WayD := fun w vs d bs => In64 d.id ∧ d.nodes.length ≤ maxLen ∧ d.tags.length ≤ maxLen ∧ ∃ a c a' c' bs1 bs2, bs = bs1 ++ bs2 ∧ vs = [.int .i64 d.id, .slice a d.nodes.length c, .slice a' d.tags.length c'] ∧ Ints w a d.nodes bs1 ∧ Tags w a' d.tags bs2
theorem wayV : VStays 3 WayE WayV :=
  ⟨fun ⟨_, _, _, a, c, a', c', b1, b2, _, e, _⟩ => by rw [e]; rfl, fun ⟨_, _, _, a, c, a', c', b1, b2, _, e, _⟩ u hu => by
      subst e; simp only [List.mem_cons, List.not_mem_nil, or_false] at hu; rcases hu with rfl | rfl | rfl <;> rfl,
    fun ⟨h1, h2, h3, a, c, a', c', b1, b2, e1, e2, h5, h6⟩ hA => ⟨h1, h2, h3, a, c, a', c', b1, b2, e1, e2, h5.alike intE (hA.sub fun _ hx => by simp [e1, hx]), h6.alike tagE (hA.sub fun _ hx => by simp [e1, hx])⟩,
    fun ⟨_, _, _, a, c, a', c', b1, b2, e1, _, h5, h6⟩ x hx => by
      subst e1
      rcases List.mem_append.1 hx with hx | hx
      · exact h5.lt intE x hx
      · exact h6.lt tagE x hx,
    fun ⟨h1, h2, h3, a, c, a', c', b1, b2, e1, e2, h5, h6⟩ hc => by subst e2; exact ⟨h1, hc 0 (by simp), a, c, a', c', b1, b2, e1, h2, h3, hc 1 (by simp), h5, hc 2 (by simp), h6⟩⟩
def AreaV : VElem AreaD := fun w vs d bs => In64 d.id ∧ d.parts.length ≤ maxLen ∧ d.tags.length ≤ maxLen ∧ ∃ a c a' c' bs1 bs2, bs = bs1 ++ bs2 ∧ vs = [.int .i64 d.id, .slice a d.parts.length c, .slice a' d.tags.length c'] ∧ Parts w a d.parts bs1 ∧ Tags w a' d.tags bs2
theorem areaV : VStays 3 AreaE AreaV :=
  ⟨fun ⟨_, _, _, a, c, a', c', b1, b2, _, e, _⟩ => by rw [e]; rfl, fun ⟨_, _, _, a, c, a', c', b1, b2, _, e, _⟩ u hu => by
      subst e; simp only [List.mem_cons, List.not_mem_nil, or_false] at hu; rcases hu with rfl | rfl | rfl <;> rfl,
    fun ⟨h1, h2, h3, a, c, a', c', b1, b2, e1, e2, h5, h6⟩ hA => ⟨h1, h2, h3, a, c, a', c', b1, b2, e1, e2, h5.alike partE (hA.sub fun _ hx => by simp [e1, hx]), h6.alike tagE (hA.sub fun _ hx => by simp [e1, hx])⟩,
    fun ⟨_, _, _, a, c, a', c', b1, b2, e1, _, h5, h6⟩ x hx => by
      subst e1
      rcases List.mem_append.1 hx with hx | hx
      · exact h5.lt partE x hx
      · exact h6.lt tagE x hx,
    fun ⟨h1, h2, h3, a, c, a', c', b1, b2, e1, e2, h5, h6⟩ hc => by subst e2; exact ⟨h1, hc 0 (by simp), a, c, a', c', b1, b2, e1, h2, h3, hc 1 (by simp), h5, hc 2 (by simp), h6⟩⟩
end Go.Proofs.Ytiagdabikbjbiaa
