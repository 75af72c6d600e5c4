/-
  The model's search for least times in memory: lemmas of memory.
-/
import Derived.Test.YtdlgehnoiaoneaaGreatDoorRtM
import Derived.Test.YtdlgehnoiaoneaaGreatDoorGQ
import Derived.Test.YtdlgehnoiaoneaaGreatDoorGX
namespace Go.Proofs.YtdlgehnoiaoneaaGreatDoor
open Go.RowKit Go.Maps

/-- The search in memory: times, what is told, what is done, what is open. -/
structure RtW (lo s0 Bt Bo Bd : Nat) (wA : World) (n n0 : Nat) (D : List Nat) (s : Rst) (ol : List Int) (va : Option Addr) (m vc : Nat) (wr : World) : Prop where
 tm : Blk wr Bt (intsV s.tl)
 ou : wr.ownsRow Bo 2 1 (.slice (some ⟨Bo, 0, none⟩) n0 n0) n0 (intsV ol)
 dn : Blk wr Bd (dnV n D)
 op : wr.ownsRow lo 2 1 (.slice va m vc) m (intsN s.op)
 ol_ : s.op.length = m
 at_ : ∀ k, (Value.slice va m vc).ownBlock = some k → k < s0 ∨ wA.heap.size ≤ k
 fr : Frx (fun y => y ≠ Bt ∧ y ≠ Bo ∧ y ≠ Bd ∧ (y < lo ∨ s0 ≤ y)) wA wr
variable {lo s0 Bt Bo Bd : Nat} {wA : World} {n n0 : Nat} {D : List Nat} {s : Rst} {ol : List Int} {va : Option Addr} {m vc : Nat} {wr : World}
theorem RtW.bel {w' : World} (h : RtW lo s0 Bt Bo Bd wA n n0 D s ol va m vc wr) (hb : Bel wr w') : RtW lo s0 Bt Bo Bd wA n n0 D s ol va m vc w' :=
 ⟨h.tm.bel hb, own_bel h.ou hb, h.dn.bel hb, own_bel h.op hb, h.ol_, h.at_, h.fr.trans (Frx.bel hb)⟩
theorem own_at_blk {B B' j N : Nat} {w : World} {u : Value} {xs : List Value} (h : w.ownsRow B 2 1 (.slice (some ⟨B, 0, none⟩) N N) N xs) (hne : B' ≠ B) : (w.setCell ⟨B', j, none⟩ u).ownsRow B 2 1 (.slice (some ⟨B, 0, none⟩) N N) N xs :=
 h.kept (setCell_grown w B' j u) (.inr fun e => by
  have e : B = B' := by simpa [Value.ownBlock] using e
  exact hne e.symm)
theorem intsV_set (l : List Int) (x : Nat) (t : Int) : intsV (l.set x t) = (intsV l).set x (.int .i64 t) := by unfold intsV; rw [List.map_set]
theorem intsV_len (l : List Int) : (intsV l).length = l.length := by simp [intsV]
theorem RtW.time (h : RtW lo s0 Bt Bo Bd wA n n0 D s ol va m vc wr) (hp : MbP lo s0 Bt Bo Bd wA) (x : Nat) (t : Int) (hx : x < s.tl.length) : RtW lo s0 Bt Bo Bd wA n n0 D ⟨s.tl.set x t, s.op⟩ ol va m vc (wr.setCell ⟨Bt, x, none⟩ (.int .i64 t)) := by
 refine ⟨?_, own_at_blk h.ou hp.tc, h.dn.far hp.td, own_blk h.op hp.t, h.ol_, h.at_, MbW.fset h.fr (.inl rfl)⟩
 rw [intsV_set]
 exact h.tm.set x _ (by rw [intsV_len]; exact hx)
theorem RtW.outp (h : RtW lo s0 Bt Bo Bd wA n n0 D s ol va m vc wr) (hp : MbP lo s0 Bt Bo Bd wA) (q : Nat) (t : Int) : RtW lo s0 Bt Bo Bd wA n n0 D s (ol.set q t) va m vc (wr.setCell ⟨Bo, q, none⟩ (.int .i64 t)) := by
 refine ⟨h.tm.far (fun e => hp.tc e.symm), ?_, h.dn.far hp.cd, own_blk h.op hp.c, h.ol_, h.at_, MbW.fset h.fr (.inr (.inl rfl))⟩
 rw [intsV_set]
 exact (World.ownsRow.stored h.ou q _).1
theorem RtW.mark (h : RtW lo s0 Bt Bo Bd wA n n0 D s ol va m vc wr) (hp : MbP lo s0 Bt Bo Bd wA) (x : Nat) (hx : x < n) : RtW lo s0 Bt Bo Bd wA n n0 (x :: D) s ol va m vc (wr.setCell ⟨Bd, x, none⟩ (.bool true)) := by
 refine ⟨h.tm.far (fun e => hp.td e.symm), own_at_blk h.ou (fun e => hp.cd e.symm), ?_, own_blk h.op hp.d, h.ol_, h.at_, MbW.fset h.fr (.inr (.inr rfl))⟩
 have := h.dn.set x (.bool true) (by simpa using hx)
 rw [show dnV n (x :: D) = (dnV n D).set x (.bool true) by
  apply List.ext_getElem
  ·simp
  ·intro i h1 h2
   by_cases e : x = i
   ·subst e; simp
   ·rw [List.getElem_set_ne e]
    simp only [dnV, List.getElem_map, List.getElem_range, List.mem_cons]
    have : ¬ i = x := fun h => e h.symm
    simp [this]]
 exact this
theorem RtW.push {wa wb : World} {g cap : Nat} {x : Nat} (h : RtW lo s0 Bt Bo Bd wA n n0 D s ol va m vc wr) (hp : MbP lo s0 Bt Bo Bd wA) (hb : Bel wr wa)
  (ho : wb.ownsRow lo 2 1 (.slice (some ⟨g, 0, none⟩) (m + 1) cap) (m + 1) (intsN s.op ++ [.int .i64 (x : Int)])) (hg : wa.grownBy wb (Value.slice va m vc).ownBlock) (hat : (Value.slice va m vc).ownBlock = some g ∨ g = wa.heap.size) :
  RtW lo s0 Bt Bo Bd wA n n0 D ⟨s.tl, s.op ++ [x]⟩ ol (some ⟨g, 0, none⟩) (m + 1) cap wb := by
 have ha := h.bel hb
 have hne : ∀ B, B < lo → some B ≠ (Value.slice va m vc).ownBlock := fun B hB e => by have := (ha.op.lt B e.symm).1; omega
 have hfr : Frx (fun k => some k ≠ (Value.slice va m vc).ownBlock) wa wb := Frx.grow hg fun x hx hX => hX hx.symm
 refine ⟨hfr.blk ha.tm (hne Bt hp.t), own_frx ha.ou hfr (fun k e => by
  have e : Bo = k := by simpa [Value.ownBlock] using e
  subst e
  exact hne Bo hp.c), hfr.blk ha.dn (hne Bd hp.d), ?_, by simp [h.ol_], fun k e => ?_, ?_⟩
 ·have e : intsN (s.op ++ [x]) = intsN s.op ++ [.int .i64 (x : Int)] := by simp [intsN]
  rw [e]; exact ho
 ·have e : g = k := by simpa [Value.ownBlock] using e
  subst e
  rcases hat with h1 | h1
  ·exact h.at_ _ h1
  ·right; rw [h1]; exact Nat.le_trans h.fr.size hb.out.size
 ·refine Frx.then ha.fr hfr fun k hk hX e => ?_
  obtain ⟨_, _, _, h4⟩ := hX
  have h5 := (ha.op.lt k e.symm).1
  rcases h.at_ k e.symm with h6 | h6 <;> omega
theorem RtW.pop {g : Nat} (h : RtW lo s0 Bt Bo Bd wA n n0 D s ol (some ⟨g, 0, none⟩) m vc wr) (hp : MbP lo s0 Bt Bo Bd wA) {k : Nat} (hk : k < m) (z : Nat) (hz : s.op[m - 1]? = some z) : RtW lo s0 Bt Bo Bd wA n n0 D ⟨s.tl, popL s.op k⟩ ol (some ⟨g, 0, none⟩) (m - 1) vc (wr.setCell ⟨g, k, none⟩ (.int .i64 (z : Int))) := by
 have hgl := (h.op.lt g rfl).1
 have hg := setCell_grown wr g k (.int .i64 (z : Int))
 have hfr : Frx (fun y => y ≠ g) wr (wr.setCell ⟨g, k, none⟩ (.int .i64 (z : Int))) := Frx.grow hg fun x hx hX => by injection hx with hx; exact hX hx.symm
 have hco := hp.c
 refine ⟨hfr.blk h.tm (by have := hp.t; omega), own_at_blk h.ou (by omega), hfr.blk h.dn (by have := hp.d; omega), ?_, by rw [popL_len, h.ol_], fun k e => h.at_ k e, ?_⟩
 ·have h1 := (h.op.stored k (.int .i64 (z : Int))).1
  obtain ⟨h2, h3⟩ := h1
  have el : (intsN s.op).set k (.int .i64 (z : Int)) = intsN (s.op.set k z) := by unfold intsN; rw [List.map_set]
  have e2 : intsN (popL s.op k) = ((intsN s.op).set k (.int .i64 (z : Int))).take (m - 1) := by
   rw [el]; unfold popL intsN; rw [h.ol_, hz, Option.getD_some, List.map_take]
  refine ⟨by rw [intsN_len, popL_len, h.ol_]; omega, ?_⟩
  rcases h3 with ⟨h4, _⟩ | ⟨g', cap', cur, h4, h5, h6, h7, h8, h9, h10⟩
  ·simp at h4
  ·injection h4 with e1 e3 e4
   refine .inr ⟨g', cap', cur, by rw [e1, e4], h5, h6, by omega, h8, h9, ?_⟩
   rw [e2, ← h10, List.take_take]
   congr 1
   omega
 ·refine Frx.then h.fr hfr fun k hk hX e => ?_
  obtain ⟨_, _, _, h4⟩ := hX
  rcases h.at_ k (by rw [e]; rfl) with h6 | h6 <;> omega
theorem iv_at {w : World} {B : Nat} {l : List Int} (h : Blk w B (intsV l)) {x : Nat} (hx : x < l.length) : w.cell? ⟨B, x, none⟩ = some (.int .i64 (iAt l x)) := by
 rw [h.cell x (by rw [intsV_len]; exact hx), iAt_eq hx]; simp [intsV]
theorem ov_at {w : World} {B N : Nat} {l : List Int} (h : w.ownsRow B 2 1 (.slice (some ⟨B, 0, none⟩) N N) N (intsV l)) (hl : l.length = N) {x : Nat} (hx : x < N) : w.cell? ⟨B, x, none⟩ = some (.int .i64 (iAt l x)) := by
 rw [h.cellAt x (by omega), iAt_eq (by omega)]
 unfold intsV
 rw [List.getElem?_map, List.getElem?_eq_getElem (by omega)]; rfl
/-- .. as it runs. -/
def RtB (lo s0 Bt Bo Bd : Nat) (wA : World) (n n0 : Nat) (g : GraphD) (p : Nat) (N : Nat) (vo : Value) (wr : World) : Prop :=
 ∃ D s ol va m vc, vo = .slice va m vc ∧ RJ (mkS n false) g (p : Int) D s ∧ RO n0 g p D s.tl ol ∧ RtW lo s0 Bt Bo Bd wA n n0 D s ol va m vc wr ∧ N = n - D.length
end Go.Proofs.YtdlgehnoiaoneaaGreatDoor
