/-
  The model's search in memory: lemmas of memory.
  The model's search: how it begins, in memory.
-/
import Derived.Test.YtdlgehnoiaoneaaGreatDoorGP
import Derived.Test.YtdlgehnoiaoneaaGreatDoorMbT
import Derived.Test.YtdlgehnoiaoneaaGreatDoorSchS
namespace Go.Proofs.YtdlgehnoiaoneaaGreatDoor
open Go.RowKit Go.Maps

abbrev tmV (l : List Cst) : List Value := l.map fun c => .int .i64 c.t
abbrev ctV (l : List Cst) : List Value := l.map fun c => .int .i64 c.c
abbrev dnV (n : Nat) (D : List Nat) : List Value := (List.range n).map fun i => .bool (decide (i ∈ D))
/-- The model's search in memory. -/
structure MbW (lo s0 Bt Bc Bd : Nat) (wA : World) (n : Nat) (D : List Nat) (s : Mst) (va : Option Addr) (m vc : Nat) (wr : World) : Prop where
  tm : Blk wr Bt (tmV s.dl)
  ct : Blk wr Bc (ctV s.dl)
  dn : Blk wr Bd (dnV n D)
  op : wr.ownsRow lo 2 1 (.slice va m vc) m (intsN s.op)
  ol : s.op.length = m
  at_ : ∀ k, (Value.slice va m vc).ownBlock = some k → k < s0 ∨ wA.heap.size ≤ k
  fr : Frx (fun y => y ≠ Bt ∧ y ≠ Bc ∧ y ≠ Bd ∧ (y < lo ∨ s0 ≤ y)) wA wr
/-- Where it lies. -/
structure MbP (lo s0 Bt Bc Bd : Nat) (wA : World) : Prop where
  t : Bt < lo
  c : Bc < lo
  d : Bd < lo
  tc : Bt ≠ Bc
  td : Bt ≠ Bd
  cd : Bc ≠ Bd
  s : lo ≤ s0
  z : s0 ≤ wA.heap.size
variable {lo s0 Bt Bc Bd : Nat} {wA : World} {n : Nat} {D : List Nat} {s : Mst} {va : Option Addr} {m vc : Nat} {wr : World}
theorem MbW.bel {w' : World} (h : MbW lo s0 Bt Bc Bd wA n D s va m vc wr) (hb : Bel wr w') : MbW lo s0 Bt Bc Bd wA n D s va m vc w' :=
  ⟨h.tm.bel hb, h.ct.bel hb, h.dn.bel hb, own_bel h.op hb, h.ol, h.at_, h.fr.trans (Frx.bel hb)⟩
theorem own_blk {lo B j : Nat} {w : World} {e : TypeId} {q n : Nat} {v u : Value} {xs : List Value} (h : w.ownsRow lo e q v n xs) (hB : B < lo) : (w.setCell ⟨B, j, none⟩ u).ownsRow lo e q v n xs := by
  cases hv : v.ownBlock with
  | none => exact h.kept (setCell_grown w B j u) (.inl hv)
  | some k => exact h.kept (setCell_grown w B j u) (.inr (by rw [hv]; intro e; injection e with e; have := (h.lt k hv).1; omega))
theorem MbW.fset {B j : Nat} {u : Value} (h : Frx (fun y => y ≠ Bt ∧ y ≠ Bc ∧ y ≠ Bd ∧ (y < lo ∨ s0 ≤ y)) wA wr) (hB : B = Bt ∨ B = Bc ∨ B = Bd) : Frx (fun y => y ≠ Bt ∧ y ≠ Bc ∧ y ≠ Bd ∧ (y < lo ∨ s0 ≤ y)) wA (wr.setCell ⟨B, j, none⟩ u) :=
  h.trans (Frx.grow (setCell_grown wr B j u) fun x hx hX => by
    injection hx with hx
    subst hx
    obtain ⟨h1, h2, h3, _⟩ := hX
    rcases hB with e | e | e
    · exact h1 e
    · exact h2 e
    · exact h3 e)
/-- A cost is written: first the time, then the number. -/
theorem MbW.time (h : MbW lo s0 Bt Bc Bd wA n D s va m vc wr) (hp : MbP lo s0 Bt Bc Bd wA) (x : Nat) (t : Int) (hx : x < s.dl.length) : MbW lo s0 Bt Bc Bd wA n D ⟨s.dl.set x ⟨t, (cAt s.dl x).c⟩, s.op⟩ va m vc (wr.setCell ⟨Bt, x, none⟩ (.int .i64 t)) := by
  refine ⟨?_, ?_, h.dn.far hp.td, own_blk h.op hp.t, h.ol, h.at_, MbW.fset h.fr (.inl rfl)⟩
  · have := h.tm.set x (.int .i64 t) (by simpa using hx)
    rw [show tmV (s.dl.set x ⟨t, (cAt s.dl x).c⟩) = (tmV s.dl).set x (.int .i64 t) by simp [tmV, List.map_set]]
    exact this
  · rw [show ctV (s.dl.set x ⟨t, (cAt s.dl x).c⟩) = ctV s.dl by
      apply List.ext_getElem
      · simp
      · intro i h1 h2
        have hi : i < s.dl.length := by simpa using h2
        by_cases e : x = i
        · subst e; simp [cAt_eq hi]
        · simp [List.getElem_set_ne e]]
    exact h.ct.far hp.tc
theorem MbW.numb (h : MbW lo s0 Bt Bc Bd wA n D s va m vc wr) (hp : MbP lo s0 Bt Bc Bd wA) (x : Nat) (t : Int) (hx : x < s.dl.length) : MbW lo s0 Bt Bc Bd wA n D ⟨s.dl.set x ⟨(cAt s.dl x).t, t⟩, s.op⟩ va m vc (wr.setCell ⟨Bc, x, none⟩ (.int .i64 t)) := by
  refine ⟨?_, ?_, h.dn.far hp.cd, own_blk h.op hp.c, h.ol, h.at_, MbW.fset h.fr (.inr (.inl rfl))⟩
  · rw [show tmV (s.dl.set x ⟨(cAt s.dl x).t, t⟩) = tmV s.dl by
      apply List.ext_getElem
      · simp
      · intro i h1 h2
        have hi : i < s.dl.length := by simpa using h2
        by_cases e : x = i
        · subst e; simp [cAt_eq hi]
        · simp [List.getElem_set_ne e]]
    exact h.tm.far (fun e => hp.tc e.symm)
  · have := h.ct.set x (.int .i64 t) (by simpa using hx)
    rw [show ctV (s.dl.set x ⟨(cAt s.dl x).t, t⟩) = (ctV s.dl).set x (.int .i64 t) by simp [ctV, List.map_set]]
    exact this
theorem MbW.both (h : MbW lo s0 Bt Bc Bd wA n D s va m vc wr) (hp : MbP lo s0 Bt Bc Bd wA) (x : Nat) (c : Cst) (hx : x < s.dl.length) : MbW lo s0 Bt Bc Bd wA n D ⟨s.dl.set x c, s.op⟩ va m vc ((wr.setCell ⟨Bt, x, none⟩ (.int .i64 c.t)).setCell ⟨Bc, x, none⟩ (.int .i64 c.c)) := by
  have h1 := (h.time hp x c.t hx).numb hp x c.c (by simpa using hx)
  have e : (s.dl.set x ⟨c.t, (cAt s.dl x).c⟩).set x ⟨(cAt (s.dl.set x ⟨c.t, (cAt s.dl x).c⟩) x).t, c.c⟩ = s.dl.set x c := by
    rw [List.set_set, cAt_set_self hx]
  simp only [e] at h1
  exact h1
/-- One is done. -/
theorem MbW.mark (h : MbW lo s0 Bt Bc Bd wA n D s va m vc wr) (hp : MbP lo s0 Bt Bc Bd wA) (x : Nat) (hx : x < n) : MbW lo s0 Bt Bc Bd wA n (x :: D) s va m vc (wr.setCell ⟨Bd, x, none⟩ (.bool true)) := by
  refine ⟨h.tm.far (fun e => hp.td e.symm), h.ct.far (fun e => hp.cd e.symm), ?_, own_blk h.op hp.d, h.ol, h.at_, MbW.fset h.fr (.inr (.inr rfl))⟩
  have := h.dn.set x (.bool true) (by simpa using hx)
  rw [show dnV n (x :: D) = (dnV n D).set x (.bool true) by
    apply List.ext_getElem
    · simp
    · intro i h1 h2
      by_cases e : x = i
      · subst e; simp
      · rw [List.getElem_set_ne e]
        simp only [dnV, List.getElem_map, List.getElem_range, List.mem_cons]
        have : ¬ i = x := fun h => e h.symm
        simp [this]]
  exact this
/-- One is open. -/
theorem MbW.push {wa wb : World} {g cap : Nat} {x : Nat} (h : MbW lo s0 Bt Bc Bd wA n D s va m vc wr) (hp : MbP lo s0 Bt Bc Bd wA) (hb : Bel wr wa)
    (ho : wb.ownsRow lo 2 1 (.slice (some ⟨g, 0, none⟩) (m + 1) cap) (m + 1) (intsN s.op ++ [.int .i64 (x : Int)])) (hg : wa.grownBy wb (Value.slice va m vc).ownBlock) (hat : (Value.slice va m vc).ownBlock = some g ∨ g = wa.heap.size) :
    MbW lo s0 Bt Bc Bd wA n D ⟨s.dl, s.op ++ [x]⟩ (some ⟨g, 0, none⟩) (m + 1) cap wb := by
  have ha := h.bel hb
  have hne : ∀ B, B < lo → some B ≠ (Value.slice va m vc).ownBlock := fun B hB e => by have := (ha.op.lt B e.symm).1; omega
  have hfr : Frx (fun k => some k ≠ (Value.slice va m vc).ownBlock) wa wb := Frx.grow hg fun x hx hX => hX hx.symm
  refine ⟨hfr.blk ha.tm (hne Bt hp.t), hfr.blk ha.ct (hne Bc hp.c), hfr.blk ha.dn (hne Bd hp.d), ?_, by simp [h.ol], fun k e => ?_, ?_⟩
  · have e : intsN (s.op ++ [x]) = intsN s.op ++ [.int .i64 (x : Int)] := by simp [intsN]
    rw [e]; exact ho
  · have e : g = k := by simpa [Value.ownBlock] using e
    subst e
    rcases hat with h1 | h1
    · exact h.at_ _ h1
    · right; rw [h1]; exact Nat.le_trans h.fr.size hb.out.size
  · refine Frx.then ha.fr hfr fun k hk hX e => ?_
    obtain ⟨_, _, _, h4⟩ := hX
    have h5 := (ha.op.lt k e.symm).1
    rcases h.at_ k e.symm with h6 | h6 <;> omega
/-- One is taken out. -/
def popL (l : List Nat) (k : Nat) : List Nat := (l.set k (l[l.length - 1]?.getD 0)).take (l.length - 1)
theorem popL_perm {l : List Nat} {k : Nat} (hk : k < l.length) : (l[k] :: popL l k).Perm l := by
  unfold popL
  rw [List.getElem?_eq_getElem (show l.length - 1 < l.length by omega)]
  simp only [Option.getD_some]
  obtain ⟨l', z, rfl⟩ : ∃ l' z, l = l' ++ [z] := ⟨l.dropLast, l.getLast (by intro e; subst e; simp at hk), (List.dropLast_concat_getLast _).symm⟩
  simp only [List.length_append, List.length_singleton, Nat.add_sub_cancel, List.getElem_concat_length] at hk ⊢
  by_cases e : k = l'.length
  · subst e
    rw [List.getElem_concat_length rfl]
    have : ((l' ++ [z]).set l'.length z).take l'.length = l' := by
      rw [List.set_append_right _ _ (Nat.le_refl _)]
      simp
    rw [this]
    exact (List.perm_append_singleton z l').symm
  · have hk' : k < l'.length := by omega
    rw [List.getElem_append_left hk', List.set_append_left _ _ hk', List.take_append_of_le_length (by simp), List.take_of_length_le (by simp)]
    refine List.Perm.trans ?_ (List.perm_append_singleton z l').symm
    have h1 : (l'[k] :: l'.set k z).Perm (z :: l') := by
      have h2 := List.set_eq_take_append_cons_drop (l := l') (i := k) (a := z)
      rw [h2, if_pos hk']
      have h3 : l' = l'.take k ++ l'[k] :: l'.drop (k + 1) := by simp
      refine List.Perm.trans (List.Perm.cons _ List.perm_middle) (List.Perm.trans (List.Perm.swap _ _ _) (List.Perm.cons _ ?_))
      conv => rhs; rw [h3]
      exact List.perm_middle.symm
    exact h1
theorem popL_len (l : List Nat) (k : Nat) : (popL l k).length = l.length - 1 := by simp [popL]
theorem MbW.pop {g : Nat} (h : MbW lo s0 Bt Bc Bd wA n D s (some ⟨g, 0, none⟩) m vc wr) (hp : MbP lo s0 Bt Bc Bd wA) {k : Nat} (hk : k < m) (z : Nat) (hz : s.op[m - 1]? = some z) : MbW lo s0 Bt Bc Bd wA n D ⟨s.dl, popL s.op k⟩ (some ⟨g, 0, none⟩) (m - 1) vc (wr.setCell ⟨g, k, none⟩ (.int .i64 (z : Int))) := by
  have hgl := (h.op.lt g rfl).1
  have hg := setCell_grown wr g k (.int .i64 (z : Int))
  have hfr : Frx (fun y => y ≠ g) wr (wr.setCell ⟨g, k, none⟩ (.int .i64 (z : Int))) := Frx.grow hg fun x hx hX => by injection hx with hx; exact hX hx.symm
  refine ⟨hfr.blk h.tm (by have := hp.t; omega), hfr.blk h.ct (by have := hp.c; omega), hfr.blk h.dn (by have := hp.d; omega), ?_, by rw [popL_len, h.ol], fun k e => h.at_ k e, ?_⟩
  · have h1 := (h.op.stored k (.int .i64 (z : Int))).1
    obtain ⟨h2, h3⟩ := h1
    have el : (intsN s.op).set k (.int .i64 (z : Int)) = intsN (s.op.set k z) := by unfold intsN; rw [List.map_set]
    have e2 : intsN (popL s.op k) = ((intsN s.op).set k (.int .i64 (z : Int))).take (m - 1) := by
      rw [el]; unfold popL intsN; rw [h.ol, hz, Option.getD_some, List.map_take]
    refine ⟨by rw [intsN_len, popL_len, h.ol]; omega, ?_⟩
    rcases h3 with ⟨h4, _⟩ | ⟨g', cap', cur, h4, h5, h6, h7, h8, h9, h10⟩
    · simp at h4
    · injection h4 with e1 e3 e4
      refine .inr ⟨g', cap', cur, by rw [e1, e4], h5, h6, by omega, h8, h9, ?_⟩
      rw [e2, ← h10, List.take_take]
      congr 1
      omega
  · refine Frx.then h.fr hfr fun k hk hX e => ?_
    obtain ⟨_, _, _, h4⟩ := hX
    rcases h.at_ k (by rw [e]; rfl) with h6 | h6 <;> omega
theorem lst_ex {P : Nat → Prop} (h : ∃ n, P n) : ∃ n, P n ∧ ∀ m, P m → n ≤ m := by
  obtain ⟨n, hn⟩ := h
  induction n using Nat.strongRecOn with
  | _ n ih =>
    by_cases hx : ∃ m, m < n ∧ P m
    · obtain ⟨m, hm, hp⟩ := hx
      exact ih m hm hp
    · exact ⟨n, hn, fun m hm => Nat.le_of_not_lt fun hl => hx ⟨m, hl, hm⟩⟩
open Classical in
/-- The least number of which something holds. -/
noncomputable def lstN (P : Nat → Prop) : Nat := if h : ∃ n, P n then Classical.choose (lst_ex h) else 0
theorem lstN_at {P : Nat → Prop} (h : ∃ n, P n) : P (lstN P) := by
  unfold lstN
  rw [dif_pos h]
  exact (Classical.choose_spec (lst_ex h)).1
theorem lstN_le {P : Nat → Prop} {n : Nat} (h : P n) : lstN P ≤ n := by
  have hx : ∃ n, P n := ⟨n, h⟩
  unfold lstN
  rw [dif_pos hx]
  exact (Classical.choose_spec (lst_ex hx)).2 n h
end Go.Proofs.YtdlgehnoiaoneaaGreatDoor

namespace Go.Proofs.YtdlgehnoiaoneaaGreatDoor
open Go.RowKit Go.Maps

theorem blk_made {w : World} {B n : Nat} {u : Value} {t : TypeId} (h : w.heap[B]? = some (.cells (madeCells #[u] n) t)) : Blk w B (List.replicate n u) :=
  blk_of (t := t) (by rw [← toList_madeCells_one]; exact h)
/-- Its rows are made. -/
structure Mb2 (W : World) (n : Nat) (t : Value) (wx : World) : Prop where
  out : ∃ Bt Bc Br, t = .pointer (some ⟨Br, 0, none⟩) ∧ Blk wx Br [.slice (some ⟨Bt, 0, none⟩) n n, .slice (some ⟨Bc, 0, none⟩) n n] ∧ Blk wx Bt (List.replicate n (.int .i64 0)) ∧ Blk wx Bc (List.replicate n (.int .i64 0)) ∧ Bt ≠ Bc ∧ Br ≠ Bt ∧ Br ≠ Bc ∧ W.heap.size ≤ Bt ∧ W.heap.size ≤ Bc ∧ W.heap.size ≤ Br ∧ Bel W wx
theorem Mb2.put {W V : World} {n Bt Bc Br : Nat} (h1 : Blk V Br [.slice none 0 0, .slice none 0 0]) (h2 : Blk V Bt (List.replicate n (.int .i64 0))) (h3 : Blk V Bc (List.replicate n (.int .i64 0))) (d1 : Bt ≠ Bc) (d2 : Br ≠ Bt) (d3 : Br ≠ Bc) (l1 : W.heap.size ≤ Bt) (l2 : W.heap.size ≤ Bc) (l3 : W.heap.size ≤ Br) (hb : Bel W V) :
    Mb2 W n (.pointer (some ⟨Br, 0, none⟩)) ((V.setCell ⟨Br, 0, none⟩ (.slice (some ⟨Bt, 0, none⟩) n n)).setCell ⟨Br, 1, none⟩ (.slice (some ⟨Bc, 0, none⟩) n n)) :=
  ⟨Bt, Bc, Br, rfl, (h1.set 0 _ (by simp)).set 1 _ (by simp), (h2.far d2).far d2, (h3.far d3).far d3, d1, d2, d3, l1, l2, l3, bel_set (bel_set hb l3 _) l3 _⟩
theorem mB_zero (S : SrS) (g : GraphD) (st : Int) : mB S g st 0 = ⟨List.replicate S.n1 ⟨0, 0⟩, []⟩ := by
  unfold mB
  simp only [Mst.mk.injEq]
  refine ⟨?_, by simp⟩
  apply List.ext_getElem
  · simp
  · intro i h1 h2
    simp
/-- The model's search stands at its beginning. -/
theorem MbW.start {wx X0 : World} {n Bt Bc Bd : Nat} {S : SrS} {g : GraphD} {st : Int} (hS : S.n1 = n) (hX : X0 = (wx.alloc (.cells (madeCells #[.bool false] n) 4)).alloc (.cells #[] 2)) (h2 : Blk wx Bt (List.replicate n (.int .i64 0))) (h3 : Blk wx Bc (List.replicate n (.int .i64 0))) (hd : Bd = wx.heap.size) :
    MbW (wx.heap.size + 1) (wx.heap.size + 2) Bt Bc Bd X0 n [] (mB S g st 0) (some ⟨wx.heap.size + 1, 0, none⟩) 0 0 X0 := by
  subst hX hd hS
  have hb1 : Bel wx (wx.alloc (.cells (madeCells #[.bool false] S.n1) 4)) := bel_alloc (Bel.refl _) _
  have hb2 : Bel (wx.alloc (.cells (madeCells #[.bool false] S.n1) 4)) ((wx.alloc (.cells (madeCells #[.bool false] S.n1) 4)).alloc (.cells #[] 2)) := bel_alloc (Bel.refl _) _
  rw [mB_zero]
  refine ⟨?_, ?_, ?_, ?_, rfl, fun k e => ?_, Frx.refl _ _⟩
  · have := (h2.bel hb1).bel hb2
    simpa [tmV] using this
  · have := (h3.bel hb1).bel hb2
    simpa [ctV] using this
  · have h := (blk_made (heap_alloc_new wx (.cells (madeCells #[.bool false] S.n1) 4))).bel hb2
    rw [show dnV S.n1 [] = List.replicate S.n1 (.bool false) by
      apply List.ext_getElem
      · simp
      · intro i h1 h2
        simp]
    exact h
  · have := World.ownsRow_lit (base := wx.heap.size + 1) (e := 2) (size := 1) (wx.alloc (.cells (madeCells #[.bool false] S.n1) 4)) #[] 0 (by simp) (Nat.zero_le _) rfl
    simpa [intsN] using this
  · have e : wx.heap.size + 1 = k := by simpa [Value.ownBlock] using e
    left
    omega
/-- What l10Back tells. -/
structure BakOut (w : World) (g : GraphD) (p : Nat) (e : Ending) (w' : World) : Prop where
  out : ∃ Bt Bc D s, e = .returned (.agg #[.slice (some ⟨Bt, 0, none⟩) g.roads.length g.roads.length, .slice (some ⟨Bc, 0, none⟩) g.roads.length g.roads.length]) ∧ Blk w' Bt (tmV s.dl) ∧ Blk w' Bc (ctV s.dl) ∧ MJ (mkS g.roads.length true) g (p : Int) D s ∧ s.op = [] ∧ w.heap.size ≤ Bt ∧ w.heap.size ≤ Bc ∧ Bt ≠ Bc ∧ Bel w w'
end Go.Proofs.YtdlgehnoiaoneaaGreatDoor
