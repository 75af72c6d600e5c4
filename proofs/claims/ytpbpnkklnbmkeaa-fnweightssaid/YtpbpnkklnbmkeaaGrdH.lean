/-
  The grid of rooms while a room is being put into it.
-/
import Derived.Test.YtpbpnkklnbmkeaaGrdF
namespace Go.Proofs.Ytpbpnkklnbmkeaa
open Go.RowKit Go.Maps
open Go.ChangeMaps (setBlock heap_setBlock_same heap_setBlock_other)

/-- What lies below N0, and the blocks of which X holds, stay. -/
structure Frm (N0 : Nat) (X : Nat → Prop) (w w' : World) : Prop where
  os : w'.os = w.os
  tape : w'.tape = w.tape
  output : w'.output = w.output
  size : w.heap.size ≤ w'.heap.size
  block : ∀ k, k < w.heap.size → k < N0 ∨ X k → w'.heap[k]? = w.heap[k]?
theorem Frm.refl (N0 : Nat) (X : Nat → Prop) (w : World) : Frm N0 X w w := ⟨rfl, rfl, rfl, Nat.le_refl _, fun _ _ _ => rfl⟩
theorem Frm.trans {N0 : Nat} {X : Nat → Prop} {a b c : World} (h : Frm N0 X a b) (k : Frm N0 X b c) : Frm N0 X a c :=
  ⟨k.os.trans h.os, k.tape.trans h.tape, k.output.trans h.output, Nat.le_trans h.size k.size, fun i hi hx => (k.block i (Nat.lt_of_lt_of_le hi h.size) hx).trans (h.block i hi hx)⟩
theorem Frm.grow {N0 : Nat} {X : Nat → Prop} {a b : World} {row : Option Nat} (h : a.grownBy b row) (hr : ∀ x, row = some x → N0 ≤ x ∧ ¬ X x) : Frm N0 X a b :=
  ⟨h.os, h.tape, h.output, h.size, fun k hk hx => h.block k hk fun e => by have := hr k e.symm; rcases hx with hx | hx; · omega
                                                                           · exact this.2 hx⟩
theorem Frm.bel {N0 : Nat} {X : Nat → Prop} {a b : World} (h : Bel a b) : Frm N0 X a b := ⟨h.out.os, h.out.tape, h.out.output, h.out.size, fun k hk _ => h.out.block k hk⟩
theorem Frm.blk {N0 : Nat} {X : Nat → Prop} {a b : World} {B : Nat} {vs : List Value} (h : Frm N0 X a b) (k : Blk a B vs) (hx : X B) : Blk b B vs :=
  ⟨Nat.lt_of_lt_of_le k.lt h.size, fun j hj => by rw [World.cell?_of_block (h.block B k.lt (.inr hx))]; exact k.cell j hj, fun j => by rw [World.frozen?_of_block (h.block B k.lt (.inr hx))]; exact k.free j⟩
theorem Frm.sl {α : Type} {q : Nat} {E : Elem α} (hE : Stays q E) {N0 : Nat} {X : Nat → Prop} {w w' : World} {a : Option Addr} {l : List α} {bs : List Nat} (g : Frm N0 X w w') (h : Sl q E w a l bs) (hn : ∀ x ∈ bs, X x) : Sl q E w' a l bs :=
  h.alike hE fun b hb => by
    have hl := h.lt hE b hb
    have e := g.block b hl (.inr (hn b hb))
    exact ⟨Nat.lt_of_lt_of_le hl g.size, fun o => World.cell?_of_block e, fun o => World.frozen?_of_block e⟩

/-- The grid while the squares T have been told of the room that comes. -/
structure GridM (N0 G M : Nat) (X : Nat → Prop) (w : World) (rs : List RmD) (n : Nat) (T : List SqD) (q : GD) : Prop where
  box : Blk w G [q.vr, .map (some M), q.va]
  map : GMap w M n q.V
  rooms : Gr 4 (flatV RmP rmCs) 70 N0 w q.vr rs q.R (fun _ => [])
  asked : w.ownsRow N0 4 1 q.va rs.length (q.bl.map Value.bool)
  rows : ∀ c r, w.ownsRow N0 3 1 (q.V c r) (q.I c r).length (intsN (q.I c r))
  len : ∀ c r, (q.I c r).length ≤ n
  mem : ∀ c r, ∀ i ∈ q.I c r, i < rs.length + 1
  all : ∀ i (h : i < rs.length), ∀ s ∈ rmS rs[i], i ∈ q.I s.c s.r
  new : ∀ s ∈ T, rs.length ∈ q.I s.c s.r
  lo : N0 ≤ G ∧ N0 ≤ M ∧ G ≠ M ∧ N0 ≤ w.heap.size
  sh : ∀ x, X x → x ≠ G ∧ x ≠ M ∧ x < w.heap.size
  d1 : q.vr.ownBlock = none ∨ q.vr.ownBlock ≠ q.va.ownBlock
  d2 : ∀ c r, (q.V c r).ownBlock = none ∨ ((q.V c r).ownBlock ≠ q.vr.ownBlock ∧ (q.V c r).ownBlock ≠ q.va.ownBlock)
  d3 : ∀ c r c' r', ¬ (c = c' ∧ r = r') → (q.V c r).ownBlock = none ∨ (q.V c r).ownBlock ≠ (q.V c' r').ownBlock
  dr : ∀ x, q.vr.ownBlock = some x → x ≠ G ∧ ¬ X x
  da : ∀ x, q.va.ownBlock = some x → x ≠ G ∧ ¬ X x
  dv : ∀ c r x, (q.V c r).ownBlock = some x → x ≠ G ∧ ¬ X x
variable {N0 G M : Nat} {X : Nat → Prop} {w w' : World} {rs : List RmD} {n : Nat} {T : List SqD} {q : GD}
/-- From where on the blocks of the list are kept clear of. -/
theorem Grid.mid (h : Grid N0 G M X w rs n q) (hb : Bel w w') {cs : List Nat} (hc : ∀ x ∈ cs, w.heap.size ≤ x ∧ x < w'.heap.size) : GridM N0 G M (· ∈ cs) w' rs n [] q := by
  have h' := h.bel hb
  have hM := h.map.lt
  have hG := h.box.lt
  refine ⟨h'.box, h'.map, h'.rooms, h'.asked, h'.rows, h.len, fun c r i hi => Nat.lt_succ_of_lt (h.mem c r i hi), h.all, (fun _ hs => nomatch hs), h'.lo, fun x hx => ?_, h.d1, h.d2, h.d3, fun x hx => ⟨(h.dr x hx).1, fun e => ?_⟩, fun x hx => ⟨(h.da x hx).1, fun e => ?_⟩, fun c r x hx => ⟨(h.dv c r x hx).1, fun e => ?_⟩⟩
  · have := hc x hx
    omega
  · have := (h.rooms.own.lt x hx).2
    have := (hc x e).1
    omega
  · have := (h.asked.lt x hx).2
    have := (hc x e).1
    omega
  · have := ((h.rows c r).lt x hx).2
    have := (hc x e).1
    omega
theorem GridM.bel (h : GridM N0 G M X w rs n T q) (hb : Bel w w') : GridM N0 G M X w' rs n T q := by
  have hg := bel_none hb
  have ne : ∀ v : Value, v.ownBlock = none ∨ v.ownBlock ≠ none := fun v => Classical.em _
  exact ⟨h.box.bel hb, h.map.same (hb.out.block M h.map.lt), h.rooms.kept rmF hg (ne _), h.asked.kept hg (ne _), fun c r => (h.rows c r).kept hg (ne _), h.len, h.mem, h.all, h.new, ⟨h.lo.1, h.lo.2.1, h.lo.2.2.1, Nat.le_trans h.lo.2.2.2 hg.size⟩, fun x hx => ⟨(h.sh x hx).1, (h.sh x hx).2.1, Nat.lt_of_lt_of_le (h.sh x hx).2.2 hg.size⟩, h.d1, h.d2, h.d3, h.dr, h.da, h.dv⟩
theorem set_grown {w : World} {b : Nat} {o : Obj} {es : Array MapEntry} {clock : Nat} (hb : w.heap[b]? = some (.map es clock)) : w.grownBy (setBlock w b o) (some b) :=
  ⟨rfl, rfl, rfl, by simp [setBlock], fun i _ hi => heap_setBlock_other hb _ (fun e => hi (by rw [e]))⟩
/-- One square is told of the room: the entry, the row with one number more, the store. -/
theorem GridM.step (h : GridM N0 G M X w rs n T q) (hn : n < maxLen) (s : SqD) (hc : In64 s.c) (hr : In64 s.r) :
    ∃ (st : Nat) (W1 : World), (Instr.mapEntry 62 (.map (some M)) (sqV s.c s.r)).run Try.prog w = .ok (.tuple #[q.V s.c s.r, goInt st]) W1 ∧ w.grownBy W1 (some M) ∧ W1.heap.size = w.heap.size ∧ W1.ownsRow N0 3 1 (q.V s.c s.r) (q.I s.c s.r).length (intsN (q.I s.c s.r)) ∧
      ∀ (w6 : World) (v' : Value), w6.ownsRow N0 3 1 v' ((q.I s.c s.r).length + 1) (intsN (q.I s.c s.r) ++ [.int .i64 (rs.length : Nat)]) → W1.grownBy w6 (q.V s.c s.r).ownBlock → (v'.ownBlock = (q.V s.c s.r).ownBlock ∨ v'.ownBlock = some W1.heap.size) →
        ∃ W3, (Instr.entryStore 62 (.map (some M)) (goInt st) v').run Try.prog w6 = .ok () W3 ∧ w6.grownBy W3 (some M) ∧ Frm N0 X w W3 ∧ ∃ q', GridM N0 G M X W3 rs (n + 1) (T ++ [s]) q' ∧ q'.vr = q.vr ∧ q'.va = q.va := by
  obtain ⟨es0, clock0, hM0⟩ := h.map.map
  obtain ⟨st, es1, clock1, hrun, hst⟩ := h.map.entry hn hc hr
  have hM1 := heap_setBlock_same hM0 (.map es1 clock1)
  have hg1 : w.grownBy (setBlock w M (.map es1 clock1)) (some M) := set_grown hM0
  have hne : ∀ {v : Value} {e : TypeId} {k m : Nat} {xs : List Value}, w.ownsRow N0 e k v m xs → v.ownBlock = none ∨ v.ownBlock ≠ some M := fun ho => .inr fun e => own_ne_map ho h.map M e rfl
  refine ⟨st, _, hrun, hg1, by simp [setBlock], (h.rows s.c s.r).kept hg1 (hne (h.rows s.c s.r)), fun w6 v' ho6 hg6 hat => ?_⟩
  have hVM : some M ≠ (q.V s.c s.r).ownBlock := fun e => own_ne_map (h.rows s.c s.r) h.map M e.symm rfl
  have hsz : (setBlock w M (.map es1 clock1)).heap.size = w.heap.size := by simp [setBlock]
  have hM6 : w6.heap[M]? = some (.map es1 clock1) := by rw [hg6.block M (by rw [hsz]; exact h.map.lt) hVM]; exact hM1
  obtain ⟨es', clock', hr2, hGM⟩ := hst w6 v' hM6
  have hg3 : w6.grownBy (setBlock w6 M (.map es' clock')) (some M) := set_grown hM6
  have hv1 : ∀ x, v'.ownBlock = some x → (q.V s.c s.r).ownBlock = some x ∨ x = w.heap.size := fun x hx => by
    rcases hat with e | e
    · exact .inl (by rw [← e]; exact hx)
    · rw [hx, hsz] at e; injection e with e; exact .inr e
  have hVlo : ∀ x, (q.V s.c s.r).ownBlock = some x → N0 ≤ x ∧ ¬ X x := fun x hx => ⟨((h.rows s.c s.r).lt x hx).1, (h.dv _ _ x hx).2⟩
  have hMlo : ∀ x, some M = some x → N0 ≤ x ∧ ¬ X x := fun x hx => by injection hx with hx; subst hx; exact ⟨h.lo.2.1, fun e => (h.sh M e).2.1 rfl⟩
  -- what lies beside stays
  have keep : ∀ {v : Value} {e : TypeId} {k m : Nat} {xs : List Value}, w.ownsRow N0 e k v m xs → (v.ownBlock = none ∨ v.ownBlock ≠ (q.V s.c s.r).ownBlock) → (setBlock w6 M (.map es' clock')).ownsRow N0 e k v m xs := fun ho hd =>
    ((ho.kept hg1 (hne ho)).kept hg6 hd).kept hg3 (hne ho)
  have ho3 : (setBlock w6 M (.map es' clock')).ownsRow N0 3 1 v' ((q.I s.c s.r).length + 1) (intsN (q.I s.c s.r) ++ [.int .i64 (rs.length : Nat)]) := by
    refine ho6.kept hg3 (.inr fun e => ?_)
    rcases hv1 M e with e | e
    · exact hVM e.symm
    · have := h.map.lt; omega
  have hGV : some G ≠ (q.V s.c s.r).ownBlock := fun e => (h.dv _ _ G e.symm).1 rfl
  have hGM' : some G ≠ some M := fun e => by injection e with e; exact h.lo.2.2.1 e
  have hs6 : w.heap.size ≤ w6.heap.size := by rw [← hsz]; exact hg6.size
  have hs3 : (setBlock w6 M (.map es' clock')).heap.size = w6.heap.size := by simp [setBlock]
  have hlt : ∀ {v : Value} {e : TypeId} {k m : Nat} {xs : List Value}, w.ownsRow N0 e k v m xs → v.ownBlock ≠ some w.heap.size := fun ho e => by have := (ho.lt _ e).2; omega
  refine ⟨_, hr2, hg3, (Frm.grow hg1 hMlo).trans ((Frm.grow hg6 hVlo).trans (Frm.grow hg3 hMlo)), { q with V := fun c r => if c = s.c ∧ r = s.r then v' else q.V c r, I := fun c r => if c = s.c ∧ r = s.r then q.I s.c s.r ++ [rs.length] else q.I c r }, ?_, rfl, rfl⟩
  refine ⟨((h.box.kept hg1 hGM').kept hg6 hGV).kept hg3 hGM', hGM, ?_, ?_, ?_, ?_, ?_, ?_, ?_, ⟨h.lo.1, h.lo.2.1, h.lo.2.2.1, by rw [hs3]; exact Nat.le_trans h.lo.2.2.2 hs6⟩, ?_, h.d1, ?_, ?_, h.dr, h.da, ?_⟩
  · exact Gr.alike rmF.stays h.rooms (keep h.rooms.own (by rcases h.d2 s.c s.r with e | e; · rw [e]; exact Classical.em _
                                                           · exact .inr (fun k => e.1 k.symm))) (fun _ _ _ hx => nomatch hx)
  · exact keep h.asked (by rcases h.d2 s.c s.r with e | e; · rw [e]; exact Classical.em _
                           · exact .inr (fun k => e.2 k.symm))
  · intro c r
    show (setBlock w6 M (.map es' clock')).ownsRow N0 3 1 (if c = s.c ∧ r = s.r then v' else q.V c r) (if c = s.c ∧ r = s.r then q.I s.c s.r ++ [rs.length] else q.I c r).length (intsN (if c = s.c ∧ r = s.r then q.I s.c s.r ++ [rs.length] else q.I c r))
    by_cases e : c = s.c ∧ r = s.r
    · rw [if_pos e, if_pos e]
      have e2 : intsN (q.I s.c s.r ++ [rs.length]) = intsN (q.I s.c s.r) ++ [.int .i64 (rs.length : Nat)] := by simp [intsN]
      rw [e2, List.length_append]
      exact ho3
    · rw [if_neg e, if_neg e]
      exact keep (h.rows c r) (h.d3 c r s.c s.r e)
  · intro c r
    show (if c = s.c ∧ r = s.r then q.I s.c s.r ++ [rs.length] else q.I c r).length ≤ n + 1
    split
    · have := h.len s.c s.r; simp; omega
    · have := h.len c r; omega
  · intro c r i hi
    change i ∈ (if c = s.c ∧ r = s.r then q.I s.c s.r ++ [rs.length] else q.I c r) at hi
    split at hi
    · rcases List.mem_append.1 hi with hi | hi
      · exact h.mem _ _ i hi
      · rw [List.mem_singleton.1 hi]; exact Nat.lt_succ_self _
    · exact h.mem _ _ i hi
  · intro i hi t ht
    show i ∈ (if t.c = s.c ∧ t.r = s.r then q.I s.c s.r ++ [rs.length] else q.I t.c t.r)
    have := h.all i hi t ht
    split
    · rename_i e; rw [e.1, e.2] at this; exact List.mem_append_left _ this
    · exact this
  · intro t ht
    show rs.length ∈ (if t.c = s.c ∧ t.r = s.r then q.I s.c s.r ++ [rs.length] else q.I t.c t.r)
    split
    · simp
    · rename_i e
      rcases List.mem_append.1 ht with ht | ht
      · exact h.new t ht
      · rw [List.mem_singleton.1 ht] at e; exact absurd ⟨rfl, rfl⟩ e
  · intro x hx
    exact ⟨(h.sh x hx).1, (h.sh x hx).2.1, by rw [hs3]; exact Nat.lt_of_lt_of_le (h.sh x hx).2.2 hs6⟩
  · intro c r
    show (if c = s.c ∧ r = s.r then v' else q.V c r).ownBlock = none ∨ ((if c = s.c ∧ r = s.r then v' else q.V c r).ownBlock ≠ q.vr.ownBlock ∧ (if c = s.c ∧ r = s.r then v' else q.V c r).ownBlock ≠ q.va.ownBlock)
    by_cases e : c = s.c ∧ r = s.r
    · rw [if_pos e]
      rcases hat with hat | hat
      · rw [hat]; exact h.d2 _ _
      · rw [hat, hsz]; exact .inr ⟨(hlt h.rooms.own).symm, (hlt h.asked).symm⟩
    · rw [if_neg e]; exact h.d2 c r
  · intro c r c' r' hd
    show (if c = s.c ∧ r = s.r then v' else q.V c r).ownBlock = none ∨ (if c = s.c ∧ r = s.r then v' else q.V c r).ownBlock ≠ (if c' = s.c ∧ r' = s.r then v' else q.V c' r').ownBlock
    by_cases e : c = s.c ∧ r = s.r <;> by_cases e' : c' = s.c ∧ r' = s.r
    · exact absurd ⟨e.1.trans e'.1.symm, e.2.trans e'.2.symm⟩ hd
    · rw [if_pos e, if_neg e']
      rcases hat with hat | hat
      · rw [hat]
        have := h.d3 c r c' r' hd
        rw [e.1, e.2] at this
        exact this
      · rw [hat, hsz]; exact .inr (hlt (h.rows c' r')).symm
    · rw [if_neg e, if_pos e']
      rcases hat with hat | hat
      · rw [hat]
        exact h.d3 c r s.c s.r e
      · rw [hat, hsz]; exact .inr (hlt (h.rows c r))
    · rw [if_neg e, if_neg e']; exact h.d3 c r c' r' hd
  · intro c r x hx
    change (if c = s.c ∧ r = s.r then v' else q.V c r).ownBlock = some x at hx
    split at hx
    · rcases hv1 x hx with e | e
      · exact h.dv _ _ x e
      · subst e
        exact ⟨fun e => by have := h.box.lt; omega, fun e => by have := (h.sh _ e).2.2; omega⟩
    · exact h.dv _ _ x hx
end Go.Proofs.Ytpbpnkklnbmkeaa
