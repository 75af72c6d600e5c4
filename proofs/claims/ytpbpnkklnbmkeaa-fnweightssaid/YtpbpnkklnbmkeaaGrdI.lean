/-
  The grid of rooms once a room is put into it.
-/
import Derived.Test.YtpbpnkklnbmkeaaGrdH
namespace Go.Proofs.Ytpbpnkklnbmkeaa
open Go.RowKit Go.Maps

/-- The grid with m marks. -/
structure GridN (N0 G M : Nat) (X : Nat → Prop) (w : World) (rs : List RmD) (m n : Nat) (q : GD) : Prop where
  box : Blk w G [q.vr, .map (some M), q.va]
  map : GMap w M n q.V
  rooms : Gr 4 (flatV RmP rmCs) 70 N0 w q.vr rs q.R (fun _ => [])
  asked : w.ownsRow N0 4 1 q.va m (q.bl.map Value.bool)
  rows : ∀ c r, w.ownsRow N0 3 1 (q.V c r) (q.I c r).length (intsN (q.I c r))
  len : ∀ c r, (q.I c r).length ≤ n
  mem : ∀ c r, ∀ i ∈ q.I c r, i < rs.length
  all : ∀ i (h : i < rs.length), ∀ s ∈ rmS rs[i], i ∈ q.I s.c s.r
  lo : N0 ≤ G ∧ N0 ≤ M ∧ G ≠ M ∧ N0 ≤ w.heap.size
  sh : ∀ x, X x → x ≠ G ∧ x ≠ M ∧ x < w.heap.size
  d1 : q.vr.ownBlock = none ∨ q.vr.ownBlock ≠ q.va.ownBlock
  d2 : ∀ c r, (q.V c r).ownBlock = none ∨ ((q.V c r).ownBlock ≠ q.vr.ownBlock ∧ (q.V c r).ownBlock ≠ q.va.ownBlock)
  d3 : ∀ c r c' r', ¬ (c = c' ∧ r = r') → (q.V c r).ownBlock = none ∨ (q.V c r).ownBlock ≠ (q.V c' r').ownBlock
  dr : ∀ x, q.vr.ownBlock = some x → x ≠ G ∧ ¬ X x
  da : ∀ x, q.va.ownBlock = some x → x ≠ G ∧ ¬ X x
  dv : ∀ c r x, (q.V c r).ownBlock = some x → x ≠ G ∧ ¬ X x
variable {N0 G M : Nat} {X : Nat → Prop} {w wa wb : World} {rs : List RmD} {m n : Nat} {T : List SqD} {q : GD}
theorem GridM.room (h : GridM N0 G M X w rs n T q) {p : RmD} (hp : RmP p) (hT : ∀ s ∈ rmS p, s ∈ T) (hb : Bel w wa) {vr : Value} (ho : wb.ownsRow N0 70 4 vr (rs.length + 1) (recs q.R rs.length ++ rmCs p)) (hg : wa.grownBy wb q.vr.ownBlock) (hat : vr.ownBlock = q.vr.ownBlock ∨ vr.ownBlock = some wa.heap.size) :
    ∃ q', GridN N0 G M X (wb.setCell ⟨G, 0, none⟩ vr) (rs ++ [p]) rs.length n q' ∧ q'.vr = vr ∧ q'.va = q.va ∧ Frm N0 X w (wb.setCell ⟨G, 0, none⟩ vr) := by
  have ha := h.bel hb
  have hG0 := setCell_grown wb G 0 vr
  obtain ⟨R', G'⟩ := Gr.addF rmF (d := p) ha.rooms (Bel.refl wa) hp ha.lo.2.2.2 ho hg hat
  have hv1 : ∀ x, vr.ownBlock = some x → q.vr.ownBlock = some x ∨ x = wa.heap.size := fun x hx => by
    rcases hat with e | e
    · exact .inl (by rw [← e]; exact hx)
    · rw [hx] at e; injection e with e; exact .inr e
  have hGr : some G ≠ q.vr.ownBlock := fun e => (h.dr G e.symm).1 rfl
  have hMr : some M ≠ q.vr.ownBlock := fun e => own_ne_map h.rooms.own h.map M e.symm rfl
  have hMG : some M ≠ some G := fun e => by injection e with e; exact h.lo.2.2.1 e.symm
  have hsz : (wb.setCell ⟨G, 0, none⟩ vr).heap.size = wb.heap.size := by simp
  have hlt : ∀ {v : Value} {e : TypeId} {k m : Nat} {xs : List Value}, wa.ownsRow N0 e k v m xs → v.ownBlock ≠ some wa.heap.size := fun ho e => by have := (ho.lt _ e).2; omega
  have nG : ∀ v : Value, (∀ x, v.ownBlock = some x → x ≠ G ∧ ¬ X x) → v.ownBlock = none ∨ v.ownBlock ≠ some G := fun v hv => .inr fun e => (hv G e).1 rfl
  have hdr' : ∀ x, vr.ownBlock = some x → x ≠ G ∧ ¬ X x := fun x hx => by
    rcases hv1 x hx with e | e
    · exact h.dr x e
    · subst e
      exact ⟨fun e => by have := ha.box.lt; omega, fun e => by have := (ha.sh _ e).2.2; omega⟩
  refine ⟨{ q with vr := vr, R := R' }, ⟨?_, ?_, G'.kept rmF hG0 (nG vr hdr'), ?_, ?_, h.len, ?_, ?_, ⟨h.lo.1, h.lo.2.1, h.lo.2.2.1, by rw [hsz]; exact Nat.le_trans ha.lo.2.2.2 hg.size⟩, ?_, ?_, ?_, h.d3, hdr', h.da, h.dv⟩, rfl, rfl, ?_⟩
  · exact (ha.box.kept hg hGr).set 0 vr (by simp)
  · exact (ha.map.same (hg.block M ha.map.lt hMr)).same (hG0.block M (Nat.lt_of_lt_of_le ha.map.lt hg.size) hMG)
  · exact (ha.asked.kept hg (ne_swap h.d1)).kept hG0 (nG _ h.da)
  · exact fun c r => ((ha.rows c r).kept hg ((h.d2 c r).imp id (fun e => e.1))).kept hG0 (nG _ (h.dv c r))
  · intro c r i hi
    have := h.mem c r i hi
    simpa using this
  · intro i hi s hs
    by_cases e : i < rs.length
    · rw [List.getElem_append_left e] at hs
      exact h.all i e s hs
    · have e2 : i = rs.length := by simp at hi; omega
      subst e2
      simp at hs
      exact h.new s (hT s hs)
  · intro x hx
    exact ⟨(h.sh x hx).1, (h.sh x hx).2.1, by rw [hsz]; exact Nat.lt_of_lt_of_le (ha.sh x hx).2.2 hg.size⟩
  · show vr.ownBlock = none ∨ vr.ownBlock ≠ q.va.ownBlock
    rcases hat with e | e
    · rw [e]; exact h.d1
    · rw [e]; exact .inr (hlt ha.asked).symm
  · intro c r
    show (q.V c r).ownBlock = none ∨ ((q.V c r).ownBlock ≠ vr.ownBlock ∧ (q.V c r).ownBlock ≠ q.va.ownBlock)
    rcases h.d2 c r with e | e
    · exact .inl e
    · refine .inr ⟨?_, e.2⟩
      rcases hat with k | k
      · rw [k]; exact e.1
      · rw [k]; exact hlt (ha.rows c r)
  · exact (Frm.bel hb).trans ((Frm.grow hg fun x hx => ⟨(h.rooms.own.lt x hx).1, (h.dr x hx).2⟩).trans (Frm.grow hG0 fun x hx => by injection hx with hx; subst hx; exact ⟨h.lo.1, fun e => (h.sh _ e).1 rfl⟩))
theorem GridN.bel {w' : World} (h : GridN N0 G M X w rs m n q) (hb : Bel w w') : GridN N0 G M X w' rs m n q := by
  have hg := bel_none hb
  have ne : ∀ v : Value, v.ownBlock = none ∨ v.ownBlock ≠ none := fun v => Classical.em _
  exact ⟨h.box.bel hb, h.map.same (hb.out.block M h.map.lt), h.rooms.kept rmF hg (ne _), h.asked.kept hg (ne _), fun c r => (h.rows c r).kept hg (ne _), h.len, h.mem, h.all, ⟨h.lo.1, h.lo.2.1, h.lo.2.2.1, Nat.le_trans h.lo.2.2.2 hg.size⟩, fun x hx => ⟨(h.sh x hx).1, (h.sh x hx).2.1, Nat.lt_of_lt_of_le (h.sh x hx).2.2 hg.size⟩, h.d1, h.d2, h.d3, h.dr, h.da, h.dv⟩
theorem GridN.mark (h : GridN N0 G M X w rs m n q) (hm : m + 1 = rs.length) (hb : Bel w wa) {va : Value} (ho : wb.ownsRow N0 4 1 va (m + 1) (q.bl.map Value.bool ++ [.bool false])) (hg : wa.grownBy wb q.va.ownBlock) (hat : va.ownBlock = q.va.ownBlock ∨ va.ownBlock = some wa.heap.size) :
    ∃ q', Grid N0 G M (fun _ => False) (wb.setCell ⟨G, 2, none⟩ va) rs n q' ∧ Frm N0 X w (wb.setCell ⟨G, 2, none⟩ va) := by
  have ha := h.bel hb
  have hG0 := setCell_grown wb G 2 va
  have hv1 : ∀ x, va.ownBlock = some x → q.va.ownBlock = some x ∨ x = wa.heap.size := fun x hx => by
    rcases hat with e | e
    · exact .inl (by rw [← e]; exact hx)
    · rw [hx] at e; injection e with e; exact .inr e
  have hGr : some G ≠ q.va.ownBlock := fun e => (h.da G e.symm).1 rfl
  have hMr : some M ≠ q.va.ownBlock := fun e => own_ne_map h.asked h.map M e.symm rfl
  have hMG : some M ≠ some G := fun e => by injection e with e; exact h.lo.2.2.1 e.symm
  have hsz : (wb.setCell ⟨G, 2, none⟩ va).heap.size = wb.heap.size := by simp
  have hlt : ∀ {v : Value} {e : TypeId} {k m : Nat} {xs : List Value}, wa.ownsRow N0 e k v m xs → v.ownBlock ≠ some wa.heap.size := fun ho e => by have := (ho.lt _ e).2; omega
  have nG : ∀ v : Value, (∀ x, v.ownBlock = some x → x ≠ G ∧ ¬ X x) → v.ownBlock = none ∨ v.ownBlock ≠ some G := fun v hv => .inr fun e => (hv G e).1 rfl
  have hda' : ∀ x, va.ownBlock = some x → x ≠ G ∧ ¬ X x := fun x hx => by
    rcases hv1 x hx with e | e
    · exact h.da x e
    · subst e
      exact ⟨fun e => by have := ha.box.lt; omega, fun e => by have := (ha.sh _ e).2.2; omega⟩
  refine ⟨{ q with va := va, bl := q.bl ++ [false] }, ⟨?_, ?_, (ha.rooms.kept rmF hg h.d1).kept rmF hG0 (nG _ h.dr), ?_, ?_, h.len, h.mem, h.all, ⟨h.lo.1, h.lo.2.1, h.lo.2.2.1, by rw [hsz]; exact Nat.le_trans ha.lo.2.2.2 hg.size⟩, fun _ hx => hx.elim, ?_, ?_, h.d3, fun x hx => ⟨(h.dr x hx).1, fun e => e⟩, fun x hx => ⟨(hda' x hx).1, fun e => e⟩, fun c r x hx => ⟨(h.dv c r x hx).1, fun e => e⟩⟩, ?_⟩
  · exact (ha.box.kept hg hGr).set 2 va (by simp)
  · exact (ha.map.same (hg.block M ha.map.lt hMr)).same (hG0.block M (Nat.lt_of_lt_of_le ha.map.lt hg.size) hMG)
  · have e : (q.bl ++ [false]).map Value.bool = q.bl.map Value.bool ++ [.bool false] := by simp
    show (wb.setCell ⟨G, 2, none⟩ va).ownsRow N0 4 1 va rs.length ((q.bl ++ [false]).map Value.bool)
    rw [e, ← hm]
    exact ho.kept hG0 (nG _ hda')
  · exact fun c r => ((ha.rows c r).kept hg ((h.d2 c r).imp id (fun e => e.2))).kept hG0 (nG _ (h.dv c r))
  · show q.vr.ownBlock = none ∨ q.vr.ownBlock ≠ va.ownBlock
    rcases hat with e | e
    · rw [e]; exact h.d1
    · rw [e]; exact .inr (hlt ha.rooms.own)
  · intro c r
    show (q.V c r).ownBlock = none ∨ ((q.V c r).ownBlock ≠ q.vr.ownBlock ∧ (q.V c r).ownBlock ≠ va.ownBlock)
    rcases h.d2 c r with e | e
    · exact .inl e
    · refine .inr ⟨e.1, ?_⟩
      rcases hat with k | k
      · rw [k]; exact e.2
      · rw [k]; exact hlt (ha.rows c r)
  · exact (Frm.bel hb).trans ((Frm.grow hg fun x hx => ⟨(h.asked.lt x hx).1, (h.da x hx).2⟩).trans (Frm.grow hG0 fun x hx => by injection hx with hx; subst hx; exact ⟨h.lo.1, fun e => (h.sh _ e).1 rfl⟩))
end Go.Proofs.Ytpbpnkklnbmkeaa
