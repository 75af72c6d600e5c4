/-
  The pieces of a clipped row while they are being made: the program's add.
-/
import Derived.Test.YtldfcnlhjjiihaaGreatCD
import Derived.Test.YtldfcnlhjjiihaaGreatCC
import Derived.Test.YtldfcnlhjjiihaaGreatCH
import Derived.Laws.AppendOwnNone
import Derived.Deep.AppendLies
import Derived.Deep.RegionLaw
import Derived.Deep.RegionHeld3
namespace Go.Proofs.YtldfcnlhjjiihaaGreat
open Go.RowKit Go.Maps

/-- The points, where the pieces begin, whether the last one is open. -/
structure PcD where
 vp : Value
 vs : Value
 pts : List PtD
 R : Nat → List Value
 ss : List Nat
 op : Bool
/-- Points and starts lie behind block B, in which their slices are. -/
structure Pcs (B : Nat) (w : World) (q : PcD) : Prop where
 box : Blk w B [q.vp, q.vs, .bool q.op]
 pts : GrP (B + 1) w q.vp q.pts q.R
 ss : w.ownsRow (B + 1) 3 1 q.vs q.ss.length (intsN q.ss)
 ap : q.vp.ownBlock = none ∨ q.vp.ownBlock ≠ q.vs.ownBlock
theorem own_off {w : World} {B : Nat} {e : TypeId} {k : Nat} {v : Value} {n : Nat} {xs : List Value} (h : w.ownsRow (B + 1) e k v n xs) : some B ≠ v.ownBlock := fun e => by have := (h.lt B e.symm).1; omega
variable {B : Nat} {w wa wb : World} {q : PcD}
theorem Pcs.bel (h : Pcs B w q) (hb : Bel w wa) : Pcs B wa q :=
 ⟨h.box.bel hb, h.pts.kept pqF (bel_none hb) (Classical.em _), h.ss.kept (bel_none hb) (Classical.em _), h.ap⟩
theorem off_B {w : World} {B : Nat} {e : TypeId} {k : Nat} {v : Value} {n : Nat} {xs : List Value} (h : w.ownsRow (B + 1) e k v n xs) : v.ownBlock = none ∨ v.ownBlock ≠ some B := .inr fun e => own_off h e.symm
theorem below_grow {w w' : World} {B : Nat} {row : Option Nat} (h : w.grownBy w' row) (hr : ∀ x, row = some x → B ≤ x) (hl : B ≤ w.heap.size) : Below B w w' :=
 ⟨h.os, h.tape, h.output, h.size, fun k hk => h.block k (by omega) fun e => by have := hr k e.symm; omega⟩
/-- One point more. -/
theorem Pcs.point (h : Pcs B w q) {p : PtD} (hp : PqP p) (hb : Bel w wa) {vp : Value} (ho : wb.ownsRow (B + 1) 61 2 vp (q.pts.length + 1) (recs q.R q.pts.length ++ pqCs p)) (hg : wa.grownBy wb q.vp.ownBlock) (hat : vp.ownBlock = q.vp.ownBlock ∨ vp.ownBlock = some wa.heap.size) :
  ∃ R', Pcs B (wb.setCell ⟨B, 0, none⟩ vp) { q with vp := vp, pts := q.pts ++ [p], R := R' } ∧ Below B w (wb.setCell ⟨B, 0, none⟩ vp) := by
 have ha := h.bel hb
 have hG0 := setCell_grown wb B 0 vp
 obtain ⟨R', G'⟩ := Gr.addF pqF (d := p) ha.pts (Bel.refl wa) hp (by have := ha.box.lt; omega) ho hg hat
 refine ⟨R', ⟨(ha.box.kept hg (own_off ha.pts.own)).set 0 vp (by simp), G'.kept pqF hG0 (off_B G'.own), (ha.ss.kept hg (ne_swap h.ap)).kept hG0 (off_B h.ss), ?_⟩, ?_⟩
 ·show vp.ownBlock = none ∨ vp.ownBlock ≠ q.vs.ownBlock
  rcases hat with e | e
  ·rw [e]; exact h.ap
  ·rw [e]; exact .inr fun e => by have := (ha.ss.lt _ e.symm).2; omega
 ·have hl : B ≤ w.heap.size := Nat.le_of_lt h.box.lt
  exact (below_grow (bel_none hb) (fun _ h => nomatch h) hl).trans ((below_grow hg (fun x hx => by have := (ha.pts.own.lt x hx).1; omega) (Nat.le_trans hl hb.out.size)).trans (below_grow hG0 (fun x hx => by injection hx with hx; omega) (Nat.le_trans hl (Nat.le_trans hb.out.size hg.size))))
/-- One start more. -/
theorem Pcs.start (h : Pcs B w q) (hb : Bel w wa) {vs : Value} (ho : wb.ownsRow (B + 1) 3 1 vs (q.ss.length + 1) (intsN q.ss ++ [.int .i64 (q.pts.length : Nat)])) (hg : wa.grownBy wb q.vs.ownBlock) (hat : vs.ownBlock = q.vs.ownBlock ∨ vs.ownBlock = some wa.heap.size) :
  Pcs B (wb.setCell ⟨B, 1, none⟩ vs) { q with vs := vs, ss := q.ss ++ [q.pts.length] } ∧ Below B w (wb.setCell ⟨B, 1, none⟩ vs) := by
 have ha := h.bel hb
 have hG0 := setCell_grown wb B 1 vs
 refine ⟨⟨(ha.box.kept hg (own_off ha.ss)).set 1 vs (by simp), (ha.pts.kept pqF hg h.ap).kept pqF hG0 (off_B h.pts.own), ?_, ?_⟩, ?_⟩
 ·show (wb.setCell ⟨B, 1, none⟩ vs).ownsRow (B + 1) 3 1 vs (q.ss ++ [q.pts.length]).length (intsN (q.ss ++ [q.pts.length]))
  have e2 : intsN (q.ss ++ [q.pts.length]) = intsN q.ss ++ [.int .i64 (q.pts.length : Nat)] := by simp [intsN]
  rw [e2, List.length_append]
  exact ho.kept hG0 (off_B ho)
 ·show q.vp.ownBlock = none ∨ q.vp.ownBlock ≠ vs.ownBlock
  rcases hat with e | e
  ·rw [e]; exact h.ap
  ·rw [e]; exact .inr fun e => by have := (ha.pts.own.lt _ e).2; omega
 ·have hl : B ≤ w.heap.size := Nat.le_of_lt h.box.lt
  exact (below_grow (bel_none hb) (fun _ h => nomatch h) hl).trans ((below_grow hg (fun x hx => by have := (ha.ss.lt x hx).1; omega) (Nat.le_trans hl hb.out.size)).trans (below_grow hG0 (fun x hx => by injection hx with hx; omega) (Nat.le_trans hl (Nat.le_trans hb.out.size hg.size))))
theorem Pcs.flag (h : Pcs B w q) (o : Bool) : Pcs B (w.setCell ⟨B, 2, none⟩ (.bool o)) { q with op := o } ∧ Below B w (w.setCell ⟨B, 2, none⟩ (.bool o)) := by
 have hG0 := setCell_grown w B 2 (.bool o)
 exact ⟨⟨h.box.set 2 _ (by simp), h.pts.kept pqF hG0 (off_B h.pts.own), h.ss.kept hG0 (off_B h.ss), h.ap⟩, below_grow hG0 (fun x hx => by injection hx with hx; omega) (Nat.le_of_lt h.box.lt)⟩
end Go.Proofs.YtldfcnlhjjiihaaGreat
