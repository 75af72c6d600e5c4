/-
  What a search knows once the Roads that are left at a place have been looked at: mathematics.
  slices.DeleteFunc with the closure of goOn: contract.
  A search goes on from a Road: goOn: contract.
-/
import Derived.Test.YtdlgehnoiaoneaaGreatDoorGL
import Derived.Lib.SliceRun
import Derived.Test.YtdlgehnoiaoneaaGreatDoorGA
namespace Go.Proofs.YtdlgehnoiaoneaaGreatDoor

/-- The open offers. -/
def itm (s : Sig) : List OffD := s.pd.map fun y => s.l[y]?.getD ⟨⟨0, 0⟩, 0⟩
theorem itm_mem {s : Sig} (h : ∀ y ∈ s.pd, y < s.l.length) {o : OffD} : o ∈ itm s ↔ ∃ y, ∃ hy : y < s.l.length, y ∈ s.pd ∧ s.l[y] = o := by
  unfold itm
  rw [List.mem_map]
  constructor
  · rintro ⟨y, hy, e⟩
    refine ⟨y, h y hy, hy, ?_⟩
    rw [List.getElem?_eq_getElem (h y hy)] at e
    exact e
  · rintro ⟨y, hy, hm, e⟩
    exact ⟨y, hm, by rw [List.getElem?_eq_getElem hy]; exact e⟩
theorem itm_offer {s : Sig} (h : ∀ y ∈ s.pd, y < s.l.length) (x : Nat) (c : Cst) : itm (s.offer x c) = ⟨c, x⟩ :: itm s := by
  unfold itm Sig.offer
  simp only [List.map_cons]
  congr 1
  · simp
  · apply List.map_congr_left
    intro y hy
    rw [List.getElem?_append_left (h y hy)]
theorem cAt_set_self {l : List Cst} {x : Nat} {c : Cst} (h : x < l.length) : cAt (l.set x c) x = c := by
  rw [cAt_eq (by rw [List.length_set]; exact h), List.getElem_set_self]
theorem cAt_set_ne {l : List Cst} {x y : Nat} {c : Cst} (h : x ≠ y) : cAt (l.set x c) y = cAt l y := by
  unfold cAt
  rw [List.getElem?_set_ne h]
theorem cLtB_no {a b : Cst} : cLtB a b = false ↔ b.le a := by
  rw [← Cst.not_lt, ← cLtB_iff]
  simp
theorem plus_nlt {z : Cst} {w : Int} (h : 0 ≤ w) : ¬ (z.plus w).lt z := by unfold Cst.lt Cst.plus; simp only; omega

/-- While the Roads of a row are looked at, behind a Road r with the cost z. -/
structure FI (S : SrS) (g : GraphD) (r : Nat) (z : Cst) (s0 : Sig) (xs : List Nat) (k : Nat) (s : Sig) (kept : List Nat) : Prop where
  len : s.bl.length = S.n1
  at_ : cAt s.bl r = z
  own : ∀ x, x ∉ xs.take k → cAt s.bl x = cAt s0.bl x
  chg : ∀ x ∈ xs.take k, cAt s.bl x = cAt s0.bl x ∨ (bnd S g r x = false ∧ cAt s.bl x = z.plus (stpC S.back g r x) ∧ (z.plus (stpC S.back g r x)).lt (cAt s0.bl x))
  stp : ∀ x ∈ xs.take k, bnd S g r x = false → (cAt s.bl x).le (z.plus (stpC S.back g r x))
  sub : kept.Sublist (xs.take k)
  gone : ∀ x ∈ xs.take k, x ∉ kept → (cAt s.bl x).le (z.plus (rdAt g x).time)
  pd : ∀ y ∈ s.pd, y < s.l.length
  ok : okO s.l
  lr : ∀ y (h : y < s.l.length), s.l[y].r < S.n1
  it : ∀ o, o ∈ itm s ↔ o ∈ itm s0 ∨ (o.r ∈ xs.take k ∧ o.c = cAt s.bl o.r ∧ cAt s.bl o.r ≠ cAt s0.bl o.r)
  und : (itm s).Nodup
  ll : s.l.length ≤ s0.l.length + k
  pl : s.pd.length ≤ s0.pd.length + k
  pll : s.pd.length ≤ s.l.length
theorem nodup_notin {xs : List Nat} (h : xs.Nodup) {k : Nat} (hk : k < xs.length) : xs[k] ∉ xs.take k := by
  intro hm
  obtain ⟨j, hj, e⟩ := List.getElem_of_mem hm
  rw [List.length_take] at hj
  rw [List.getElem_take] at e
  have := (List.getElem_inj h).1 e
  omega

theorem FI.step {S : SrS} {g : GraphD} {r : Nat} {z : Cst} {s0 : Sig} {xs : List Nat} {k : Nat} {s : Sig} {kept : List Nat} (h : FI S g r z s0 xs k s kept) (hg : graphP g) (hl : g.roads.length = S.n1) (hk : k < xs.length) (hnd : xs.Nodup) (hx : ∀ x ∈ xs, x < S.n1) (hz : 0 ≤ z.t ∧ 0 ≤ z.c ∧ z.c ≤ 1000000)
    (hi0 : ∀ o ∈ itm s0, (cAt s0.bl o.r).le o.c) :
    FI S g r z s0 xs (k + 1) (stpP S g r (s, kept) xs[k]).1 (stpP S g r (s, kept) xs[k]).2 := by
  have hxk : xs[k] ∉ xs.take k := nodup_notin hnd hk
  have hxn : xs[k] < S.n1 := hx _ (List.getElem_mem _)
  have etk : xs.take (k + 1) = xs.take k ++ [xs[k]] := List.take_succ_eq_append_getElem hk
  generalize xs[k] = x at *
  have hst := stp_bd (r := r) hg hl hxn
  have hti : (rdAt g x).time ≤ stpC S.back g r x := by
    have := (tnC_bd g (trnA S.back r x) (trnB S.back r x)).1
    unfold stpC
    omega
  have e0 : cAt s.bl x = cAt s0.bl x := h.own x hxk
  have hxl : x < s.bl.length := by rw [h.len]; exact hxn
  have mem : ∀ y, y ∈ xs.take (k + 1) ↔ y ∈ xs.take k ∨ y = x := fun y => by rw [etk, List.mem_append, List.mem_singleton]
  -- the rows that are left
  have subs : ∀ b : Bool, (if b = true then kept else kept ++ [x]).Sublist (xs.take (k + 1)) := fun b => by
    rw [etk]
    cases b
    · exact h.sub.append_right [x]
    · exact h.sub.trans (List.sublist_append_left _ _)
  unfold stpP
  simp only
  by_cases hc : cLtB ((cAt s.bl r).plus (stpC S.back g r x)) (cAt s.bl x) = true ∧ bnd S g r x = false
  · have er : s.relax S g r x = s.offer x (z.plus (stpC S.back g r x)) := by
      unfold Sig.relax
      rw [if_pos hc, h.at_]
    rw [er]
    obtain ⟨hc1, hc2⟩ := hc
    rw [h.at_, e0, cLtB_iff] at hc1
    have hxr : x ≠ r := by
      rintro rfl
      rw [← e0, h.at_] at hc1
      exact plus_nlt (by omega) hc1
    generalize hcc : z.plus (stpC S.back g r x) = c at *
    have bx : cAt (s.offer x c).bl x = c := cAt_set_self hxl
    have bn : ∀ y, y ≠ x → cAt (s.offer x c).bl y = cAt s.bl y := fun y hy => cAt_set_ne (fun e => hy e.symm)
    have hne : c ≠ cAt s0.bl x := by
      intro e
      rw [e] at hc1
      unfold Cst.lt at hc1
      omega
    refine ⟨by unfold Sig.offer; simp [h.len], by rw [bn r (fun e => hxr e.symm)]; exact h.at_, fun y hy => ?_, fun y hy => ?_, fun y hy hb => ?_, subs _, fun y hy hk' => ?_, fun y hy => ?_, ?_, ?_, fun o => ?_, ?_, ?_, ?_, ?_⟩
    · rw [mem] at hy
      rw [bn y (fun e => hy (.inr e))]
      exact h.own y (fun e => hy (.inl e))
    · by_cases e : y = x
      · subst e
        right
        rw [bx, hcc]
        exact ⟨hc2, rfl, hc1⟩
      · rw [bn y e]
        exact h.chg y (((mem y).1 hy).resolve_right e)
    · by_cases e : y = x
      · subst e
        rw [bx, hcc]
        exact Cst.le_refl _
      · rw [bn y e]
        exact h.stp y (((mem y).1 hy).resolve_right e) hb
    · by_cases e : y = x
      · subst e
        by_cases hd : delB g r y (s.offer y c).bl = true
        · unfold delB at hd
          rw [Bool.not_eq_true', cLtB_no, bn r (fun e => hxr e.symm), h.at_] at hd
          exact hd
        · rw [if_neg hd] at hk'
          exact absurd (List.mem_append.2 (.inr (List.mem_singleton.2 rfl))) hk'
      · rw [bn y e]
        refine h.gone y (((mem y).1 hy).resolve_right e) (fun hm => hk' ?_)
        split
        · exact hm
        · exact List.mem_append.2 (.inl hm)
    · unfold Sig.offer at hy ⊢
      simp only [List.length_append, List.length_singleton]
      rcases List.mem_cons.1 hy with rfl | hy
      · omega
      · have := h.pd y hy
        omega
    · unfold Sig.offer
      intro i hi
      simp only [List.length_append, List.length_singleton] at hi
      by_cases e : i < s.l.length
      · rw [List.getElem_append_left e]
        exact h.ok i e
      · obtain rfl : i = s.l.length := by omega
        simp only [List.getElem_concat_length]
        rw [← hcc]
        simp only [Cst.plus]
        omega
    · unfold Sig.offer
      intro i hi
      simp only [List.length_append, List.length_singleton] at hi
      by_cases e : i < s.l.length
      · simp only [List.getElem_append_left e]
        exact h.lr i e
      · obtain rfl : i = s.l.length := by omega
        simp only [List.getElem_concat_length]
        exact hxn
    · rw [itm_offer h.pd, List.mem_cons, h.it]
      constructor
      · rintro (rfl | h1 | ⟨h1, h2, h3⟩)
        · exact .inr ⟨(mem _).2 (.inr rfl), bx.symm, by simp only; rw [bx]; exact hne⟩
        · exact .inl h1
        · have e : o.r ≠ x := fun e => hxk (e ▸ h1)
          rw [bn _ e]
          exact .inr ⟨(mem _).2 (.inl h1), h2, h3⟩
      · rintro (h1 | ⟨h1, h2, h3⟩)
        · exact .inr (.inl h1)
        · by_cases e : o.r = x
          · left
            rw [e, bx] at h2
            cases o
            simp only at e h2
            rw [e, h2]
          · rw [bn _ e] at h2 h3
            exact .inr (.inr ⟨((mem _).1 h1).resolve_right e, h2, h3⟩)
    · rw [itm_offer h.pd, List.nodup_cons]
      refine ⟨fun hm => ?_, h.und⟩
      rcases (h.it _).1 hm with h1 | ⟨h1, _⟩
      · have := hi0 _ h1
        exact Cst.not_lt.2 this hc1
      · exact hxk h1
    · have := h.ll
      unfold Sig.offer
      simp only [List.length_append, List.length_singleton]
      omega
    · have := h.pl
      unfold Sig.offer
      simp only [List.length_cons]
      omega
    · have := h.pll
      unfold Sig.offer
      simp only [List.length_append, List.length_cons]
      omega
  · have er : s.relax S g r x = s := by
      unfold Sig.relax
      rw [if_neg hc]
    rw [er]
    rw [h.at_] at hc
    refine ⟨h.len, h.at_, fun y hy => h.own y (fun e => hy ((mem y).2 (.inl e))), fun y hy => ?_, fun y hy hb => ?_, subs _, fun y hy hk' => ?_, h.pd, h.ok, h.lr, fun o => ?_, h.und, by have := h.ll; omega, by have := h.pl; omega, h.pll⟩
    · rcases (mem y).1 hy with hy | rfl
      · exact h.chg y hy
      · exact .inl e0
    · rcases (mem y).1 hy with hy | rfl
      · exact h.stp y hy hb
      · rw [← cLtB_no]
        cases hq : cLtB (z.plus (stpC S.back g r y)) (cAt s.bl y)
        · rfl
        · exact absurd ⟨hq, hb⟩ hc
    · rcases (mem y).1 hy with hy | rfl
      · refine h.gone y hy (fun hm => hk' ?_)
        split
        · exact hm
        · exact List.mem_append.2 (.inl hm)
      · by_cases hd : delB g r y s.bl = true
        · unfold delB at hd
          rw [Bool.not_eq_true', cLtB_no, h.at_] at hd
          exact hd
        · rw [if_neg hd] at hk'
          exact absurd (List.mem_append.2 (.inr (List.mem_singleton.2 rfl))) hk'
    · rw [h.it]
      constructor
      · rintro (h1 | ⟨h1, h2, h3⟩)
        · exact .inl h1
        · exact .inr ⟨(mem _).2 (.inl h1), h2, h3⟩
      · rintro (h1 | ⟨h1, h2, h3⟩)
        · exact .inl h1
        · rcases (mem _).1 h1 with h1 | h1
          · exact .inr ⟨h1, h2, h3⟩
          · rw [h1] at h3
            exact absurd e0 h3
theorem FI.all {S : SrS} {g : GraphD} {r : Nat} {z : Cst} {s0 : Sig} {xs : List Nat} (hg : graphP g) (hl : g.roads.length = S.n1) (hnd : xs.Nodup) (hx : ∀ x ∈ xs, x < S.n1) (hz : 0 ≤ z.t ∧ 0 ≤ z.c ∧ z.c ≤ 1000000)
    (hi0 : ∀ o ∈ itm s0, (cAt s0.bl o.r).le o.c) (h0 : s0.bl.length = S.n1) (h1 : cAt s0.bl r = z) (h2 : ∀ y ∈ s0.pd, y < s0.l.length) (h3 : okO s0.l) (h4 : ∀ y (h : y < s0.l.length), s0.l[y].r < S.n1) (h5 : (itm s0).Nodup) (h6 : s0.pd.length ≤ s0.l.length) :
    ∀ k, k ≤ xs.length → FI S g r z s0 xs k (stP S g r s0 xs k).1 (stP S g r s0 xs k).2
  | 0, _ => ⟨h0, h1, fun _ _ => rfl, (fun _ h => nomatch h), (fun _ h => nomatch h), List.Sublist.refl _, (fun _ h => nomatch h), h2, h3, h4, fun o => ⟨.inl, fun h => h.resolve_right (fun h => nomatch h.1)⟩, h5, Nat.le_refl _, Nat.le_refl _, h6⟩
  | k + 1, hk => by
    rw [stP_succ S g r s0 xs hk]
    exact (FI.all hg hl hnd hx hz hi0 h0 h1 h2 h3 h4 h5 h6 k (by omega)).step hg hl hk hnd hx hz hi0
end Go.Proofs.YtdlgehnoiaoneaaGreatDoor

namespace Go.Proofs.YtdlgehnoiaoneaaGreatDoor
open Go.RowKit Go.Maps

/-- All that lay below base, and all blocks that are none of the four kinds, stay, but for one. -/
structure FrL (base : Nat) (O : Option Nat) (w w' : World) : Prop where
  os : w'.os = w.os
  tape : w'.tape = w.tape
  output : w'.output = w.output
  size : w.heap.size ≤ w'.heap.size
  block : ∀ k, k < w.heap.size → (k < base ∨ NoT w k) → some k ≠ O → w'.heap[k]? = w.heap[k]?
theorem FrL.of {base : Nat} {O : Option Nat} {w w' : World} (h : Fr4 base w w') : FrL base O w w' := ⟨h.os, h.tape, h.output, h.size, fun k hk hx _ => h.block k hk hx⟩
theorem FrL.trans {base : Nat} {O : Option Nat} {a b c : World} (h : FrL base O a b) (k : FrL base O b c) : FrL base O a c :=
  ⟨k.os.trans h.os, k.tape.trans h.tape, k.output.trans h.output, Nat.le_trans h.size k.size, fun i hi hx ho => by
    have e := h.block i hi hx ho
    rw [k.block i (Nat.lt_of_lt_of_le hi h.size) (hx.imp id fun hn cs t fz hh => hn cs t fz (by rw [← e]; exact hh)) ho, e]⟩
theorem FrL.put (base : Nat) (w : World) (A j : Nat) (u : Value) : FrL base (some A) w (w.setCell ⟨A, j, none⟩ u) := by
  have hg := setCell_grown w A j u
  exact ⟨hg.os, hg.tape, hg.output, hg.size, fun k hk _ ho => hg.block k hk ho⟩
theorem BoxT.frL {base : Nat} {O : Option Nat} {w w' : World} {B : Nat} {v : Value} {t : TypeId} (h : BoxT w B v t) (hf : FrL base O w w') (ht : t ≠ 131 ∧ t ≠ 112 ∧ t ≠ 114 ∧ t ≠ 3) (ho : some B ≠ O) : BoxT w' B v t := by
  have e := hf.block B (Array.getElem?_eq_some_iff.1 h).1 (.inr fun cs t' fz hx => by
    rw [h] at hx
    injection hx with hx
    injection hx with _ hx _
    rw [← hx]; exact ht) ho
  exact e.trans h
theorem Stc.frL {base : Nat} {S : SrS} {g : GraphD} {b1 : List Nat} {nb : Nat} {O : Option Nat} {w w' : World} (h : Stc base S g b1 nb w) (hf : FrL base O w w') (ho : ∀ k, O = some k → base ≤ k) : Stc base S g b1 nb w' := by
  have hb : ∀ k, k < w.heap.size → k < base → w'.heap[k]? = w.heap[k]? := fun k hk hl => hf.block k hk (.inl hl) (fun e => by have := ho k e.symm; omega)
  refine ⟨h.roads.alike roadE fun b hb' => ?_, h.low, ?_, h.wlow, ?_, h.blow, h.len, h.ok⟩
  · have hl := h.roads.lt roadE b hb'
    have e := hb b hl (h.low b hb')
    exact ⟨Nat.lt_of_lt_of_le hl hf.size, fun o => World.cell?_of_block e, fun o => World.frozen?_of_block e⟩
  · have e := hb S.Wd h.winds.lt h.wlow
    exact ⟨Nat.lt_of_lt_of_le h.winds.lt hf.size, fun i hi => by rw [World.cell?_of_block e]; exact h.winds.done i hi, fun i hi => by rw [World.cell?_of_block e]; exact h.winds.there i hi, fun i => by rw [World.frozen?_of_block e]; exact h.winds.free i⟩
  · obtain ⟨D, hm, h3⟩ := h.bans
    have hl := hm.lt
    obtain ⟨es, clock, h1, h2⟩ := hm
    exact ⟨D, ⟨es, clock, by rw [hb S.M hl h.blow]; exact h1, h2⟩, h3⟩
theorem St4.put {base lo P : Nat} {S : SrS} {vl : Value} {w : World} {s : Sig} {A n cap : Nat} {xs : List Value} (h : St4 base P S vl w s) (hA : w.ownsRow lo 2 1 (.slice (some ⟨A, 0, none⟩) n cap) n xs) (j : Nat) (u : Value) : St4 base P S vl (w.setCell ⟨A, j, none⟩ u) s := by
  obtain ⟨vb, vo, vi, ys, h1, h2, h3, h4, h5, h6⟩ := h.out
  exact ⟨⟨vb, vo, vi, ys, own_setO h1 hA (by decide) j u, own_setO h2 hA (by decide) j u, own_setO h3 hA (by decide) j u, own_setO h4 hA (by decide) j u, h5, h6⟩⟩
theorem set_take {α : Type} (xs : List α) (o m : Nat) (v : α) (h : m ≤ o) : (xs.set o v).take m = xs.take m := by
  apply List.ext_getElem?
  intro i
  by_cases hi : i < m
  · rw [List.getElem?_take_of_lt hi, List.getElem?_take_of_lt hi, List.getElem?_set_ne (by omega)]
  · rw [List.getElem?_eq_none (by simp; omega), List.getElem?_eq_none (by simp; omega)]
theorem clear_put {base P : Nat} {S : SrS} {vl : Value} {s : Sig} {A n cap : Nat} : ∀ (vs : List Value) (o : Nat) {w : World} {xs : List Value}, St4 base P S vl w s → w.ownsRow base 2 1 (.slice (some ⟨A, 0, none⟩) n cap) n xs → ∀ m, m ≤ o →
    ∃ ys, (w.setCells A o vs).ownsRow base 2 1 (.slice (some ⟨A, 0, none⟩) n cap) n ys ∧ ys.take m = xs.take m ∧ St4 base P S vl (w.setCells A o vs) s ∧ FrL base (some A) w (w.setCells A o vs)
  | [], _, w, xs, hS, hA, _, _ => ⟨xs, hA, rfl, hS, FrL.of (Fr4.refl _ _)⟩
  | v :: r, o, w, xs, hS, hA, m, hm => by
    obtain ⟨ys, h1, h2, h3, h4⟩ := clear_put r (o + 1) (hS.put hA o v) (hA.stored o v).1 m (by omega)
    refine ⟨ys, h1, h2.trans (set_take xs o m v hm), h3, (FrL.put base w A o v).trans h4⟩
theorem own_to {w : World} {base : Nat} {e : TypeId} {g n m cap : Nat} {xs : List Value} (h : w.ownsRow base e 1 (.slice (some ⟨g, 0, none⟩) n cap) n xs) (hm : m ≤ n) : w.ownsRow base e 1 (.slice (some ⟨g, 0, none⟩) m cap) m (xs.take m) := by
  rcases h.2 with ⟨h', _⟩ | ⟨g', cap', cur, h', hb, hg, hnc, hcm, hcs, htake⟩
  · simp at h'
  · simp only [Value.slice.injEq, Option.some.injEq, Addr.mk.injEq, and_true, true_and] at h'
    obtain ⟨rfl, rfl⟩ := h'
    refine ⟨?_, .inr ⟨g, cap, cur, rfl, hb, hg, by omega, hcm, hcs, ?_⟩⟩
    · rw [List.length_take, h.1]; omega
    · rw [← htake, List.take_take]; congr 1; omega
theorem own_cap {w : World} {base : Nat} {e : TypeId} {g n cap : Nat} {xs : List Value} (h : w.ownsRow base e 1 (.slice (some ⟨g, 0, none⟩) n cap) n xs) : n ≤ cap ∧ cap ≤ maxLen ∧ base ≤ g ∧ g < w.heap.size := by
  rcases h.2 with ⟨h', _⟩ | ⟨g', cap', cur, h', hb, hg, hnc, hcm, _, _⟩
  · simp at h'
  · simp only [Value.slice.injEq, Option.some.injEq, Addr.mk.injEq, and_true, true_and] at h'
    obtain ⟨rfl, rfl⟩ := h'
    exact ⟨hnc, hcm, hb, (Array.getElem?_eq_some_iff.1 hg).1⟩
theorem FrL.own {base lo : Nat} {O : Option Nat} {a b : World} {e : TypeId} {q n : Nat} {v : Value} {xs : List Value} (hf : FrL base O a b) (h : a.ownsRow lo e q v n xs) (he : e ≠ 131 ∧ e ≠ 112 ∧ e ≠ 114 ∧ e ≠ 3) (ho : ∀ g, v.ownBlock = some g → some g ≠ O) : b.ownsRow lo e q v n xs := by
  obtain ⟨h1, h2⟩ := h
  refine ⟨h1, h2.imp id fun ⟨g, cap, cur, e1, e2, hh, e4⟩ => ⟨g, cap, cur, e1, e2, ?_, e4⟩⟩
  rw [hf.block g (Array.getElem?_eq_some_iff.1 hh).1 (.inr fun cs t fz hx => by
    rw [hh] at hx
    injection hx with hx
    injection hx with _ hx _
    rw [← hx]; exact he) (ho g (by rw [e1]; rfl))]
  exact hh
/-- The block that is written where Roads are left. -/
def obL (a : Option Addr) (n : Nat) : Option Nat := if n = 0 then none else a.map Addr.block

set_option maxRecDepth 100000 in
set_option maxHeartbeats 2000000 in
theorem delete_any (base P : Nat) (S : SrS) (vl : Value) (g : GraphD) (b1 : List Nat) (nb Bs Br : Nat) (s : Sig) (r : Nat) (z : Cst) (xs : List Nat) (a : Option Addr) (n c : Nat) (w : World) (hS : St4 base P S vl w s) (hC : Stc base S g b1 nb w) (hXs : BoxT w Bs (.pointer (some ⟨P, 0, none⟩)) 107) (hXr : BoxT w Br (.int .i64 (r : Int)) 2) (hr : r < S.n1) (hx : ∀ x ∈ xs, x < S.n1) (hK : Okk S r z 90000000 90000000 s) (hz : 0 ≤ z.t ∧ z.t ≤ 1000000000000 ∧ 0 ≤ z.c ∧ z.c ≤ 1000000) (hn : xs.length = n) (hm : n ≤ 1000000) (hR : 0 < n → w.ownsRow base 2 1 (.slice a n c) n (intsN xs)) (hBs : some Bs ≠ obL a n) (hBr : some Br ≠ obL a n) :
    Calls Tryz.prog 100 #[.slice a n c, .func (.func 101) #[] #[.pointer (some ⟨Bs, 0, none⟩), .pointer (some ⟨Br, 0, none⟩)]] w fun e w' => FrL base (obL a n) w w' ∧ ∃ m, (stP S g r s xs n).2.length = m ∧ m ≤ n ∧ e = .returned (.slice a m c) ∧ St4 base P S vl w' (stP S g r s xs n).1 ∧ (0 < n → w'.ownsRow base 2 1 (.slice a m c) m (intsN (stP S g r s xs n).2)) := by
  have HS : Hid (St4 base P S vl w s) := hS
  have HC : Hid (Stc base S g b1 nb w) := hC
  have HXs : Hid (BoxT w Bs (.pointer (some ⟨P, 0, none⟩)) 107) := hXs
  have HXr : Hid (BoxT w Br (.int .i64 (r : Int)) 2) := hXr
  have HR : Hid (0 < n → w.ownsRow base 2 1 (.slice a n c) n (intsN xs)) := hR
  have HN : Hid (xs.length = n) := hn
  have HO : Hid (∀ k, k ≤ xs.length → Okk S r z (90000000 + k) (90000000 + k) (stP S g r s xs k).1) := hK.stP hC.ok hC.len hr hx ⟨hz.1, hz.2.2.1, hz.2.2.2⟩
  have HX : Hid (∀ x ∈ xs, x < S.n1) := hx
  have HBs : Hid (some Bs ≠ obL a n) := hBs
  have HBr : Hid (some Br ≠ obL a n) := hBr
  have cI := index_any base P S vl g b1 nb Bs Br s r z xs a n c w hS hC hXs hXr hr hx hK hz hn hm hR
  clear hS hC hXs hXr hR hn hK hx hBs hBr
  go_enter Tryz.func100, Tryz.ntmps100
  go_wp2_with fail
  refine cI.mono ?_
  rintro e w1 ⟨hF1, ⟨rfl, hS1, hT1⟩ | ⟨i0, hi0, rfl, hS1, hT1⟩⟩
  · have HF1 : Hid (Fr4 base w w1) := hF1
    have HS1 : Hid (St4 base P S vl w1 (stP S g r s xs n).1) := hS1
    have HT1 : Hid ((stP S g r s xs n).2 = xs) := hT1
    clear cI hF1 hS1 hT1
    go_wp2
    go_ret
    exact ⟨FrL.of HF1.out, n, by rw [HT1.out, HN.out], Nat.le_refl _, rfl, HS1.out, fun h0 => by rw [HT1.out]; exact HF1.out.own (HR.out h0) (by decide)⟩
  · have HF1 : Hid (Fr4 base w w1) := hF1
    have HS1 : Hid (St4 base P S vl w1 (stP S g r s xs (i0 + 1)).1) := hS1
    have HT1 : Hid ((stP S g r s xs (i0 + 1)).2 = xs.take i0) := hT1
    have hI := HF1.out.own (HR.out (by omega)) (by decide)
    obtain ⟨A, cap, ev, _, hA⟩ := own_in hI (by omega)
    simp only [Value.slice.injEq, true_and] at ev
    obtain ⟨rfl, rfl⟩ := ev
    obtain ⟨hcap, hc9, hAb, _⟩ := own_cap hI
    have hc9' : c ≤ 9223372036854775807 := by unfold maxLen at hc9; omega
    have HOb : Hid (obL (some ⟨A, 0, none⟩) n = some A) := (by unfold obL; rw [if_neg (by omega)]; rfl : obL (some ⟨A, 0, none⟩) n = some A)
    rw [HOb.out] at HBs HBr
    have HI : Hid (w1.ownsRow base 2 1 (.slice (some ⟨A, 0, none⟩) n c) n (intsN xs)) := hI
    have HL1 : Hid ((xs.take i0).length = i0) := (by rw [List.length_take, HN.out]; omega : (xs.take i0).length = i0)
    have hncI : (n : Int) ≤ (c : Int) := by omega
    clear cI hF1 hS1 hT1 hI hA hc9
    go_wp2
    go_loopw [5, 6, 7] (fun i j _ wr => ∃ (k m : Nat) (zs : List Nat), k ≤ n ∧ m < k ∧ j = .int .i64 k ∧ i = .int .i64 m ∧ Hid (zs.length = n) ∧ Hid ((stP S g r s xs k).2.length = m) ∧ Hid (zs.take m = (stP S g r s xs k).2) ∧ Hid (∀ t, k ≤ t → zs[t]? = xs[t]?) ∧ Hid (wr.ownsRow base 2 1 (.slice (some ⟨A, 0, none⟩) n c) n (intsN zs)) ∧ Hid (St4 base P S vl wr (stP S g r s xs k).1) ∧ Hid (FrL base (some A) w wr)) (fun _ j _ _ => n - (intOf j).toNat)
    case atStart => exact ⟨i0 + 1, i0, xs, by omega, by omega, by go_num, rfl, HN, by rw [HT1.out]; exact HL1, by rw [HT1.out]; exact (rfl : xs.take i0 = xs.take i0), fun _ _ => rfl, HI, HS1, FrL.of HF1.out⟩
    case round =>
      clear HI HF1 HS1 HT1 HL1
      obtain ⟨k, m, zs, hk, hmk, rfl, rfl, HZ, HM, HT, HE, HI, HSr, HF⟩ := hrel
      by_cases hlt : k < n
      · have hkx : k < xs.length := by rw [HN.out]; exact hlt
        have hkz : k < zs.length := by rw [HZ.out]; exact hlt
        have hmz : m < zs.length := by rw [HZ.out]; omega
        have hc := intsL_at HI.out hkz hlt
        have HEx : Hid (zs[k] = xs[k]) := (by
          have := HE.out k (Nat.le_refl _)
          rw [List.getElem?_eq_getElem hkz, List.getElem?_eq_getElem hkx] at this
          exact Option.some.inj this : zs[k] = xs[k])
        obtain ⟨x, Hx⟩ : ∃ x, Hid (xs[k] = x) := ⟨_, (rfl : xs[k] = _)⟩
        rw [HEx.out, Hx.out] at hc
        have hA := (own_cap HI.out).2.2.2
        have hxn : x < S.n1 := by rw [← Hx.out]; exact HX.out _ (List.getElem_mem _)
        have hkI : (k : Int) < (n : Int) := by omega
        have hmI : (m : Int) < (n : Int) := by omega
        have HOk : Hid (Okk S r z (90000000 + k) (90000000 + k) (stP S g r s xs k).1) := HO.out k (by omega)
        have HSt : Hid (stP S g r s xs (k + 1) = stpP S g r (stP S g r s xs k) x) := (by rw [stP_succ S g r s xs hkx, Hx.out] : stP S g r s xs (k + 1) = stpP S g r (stP S g r s xs k) x)
        obtain ⟨sk, Hsk⟩ : ∃ t, Hid ((stP S g r s xs k).1 = t) := ⟨_, (rfl : (stP S g r s xs k).1 = _)⟩
        rw [Hsk.out] at HSr HOk
        go_wp2_with fail
        refine (step_any base P S vl g b1 nb Bs Br sk r x wr HSr.out (HC.out.frL HF.out (fun t e => by injection e with e; subst e; exact hAb)) (HXs.out.frL HF.out (by decide) HBs.out) (HXr.out.frL HF.out (by decide) HBr.out) HOk.out.len hr hxn (by rw [HOk.out.at_]; exact hz) HOk.out.pd HOk.out.ok (by have := HOk.out.ll; omega) (by have := HOk.out.pl; omega)).mono ?_
        rintro e w2 ⟨rfl, hS2, hF2⟩
        have HS2 : Hid (St4 base P S vl w2 (stP S g r s xs (k + 1)).1) := (by rw [HSt.out]; unfold stpP; simp only; rw [Hsk.out]; exact hS2 : St4 base P S vl w2 (stP S g r s xs (k + 1)).1)
        have HF2 : Hid (FrL base (some A) w w2) := HF.out.trans (FrL.of hF2)
        have HI2 : Hid (w2.ownsRow base 2 1 (.slice (some ⟨A, 0, none⟩) n c) n (intsN zs)) := hF2.own HI.out (by decide)
        obtain ⟨d, Hd⟩ : ∃ d, Hid (delB g r x (sk.relax S g r x).bl = d) := ⟨_, (rfl : delB g r x (sk.relax S g r x).bl = _)⟩
        have HL2 : Hid ((stP S g r s xs (k + 1)).2 = if d = true then (stP S g r s xs k).2 else (stP S g r s xs k).2 ++ [x]) := (by rw [HSt.out]; unfold stpP; simp only; rw [Hsk.out, Hd.out] : (stP S g r s xs (k + 1)).2 = if d = true then (stP S g r s xs k).2 else (stP S g r s xs k).2 ++ [x])
        rw [Hd.out]
        clear hS2 hF2 hc hA HI HSr HF
        cases d
        · have hc2 := intsL_at HI2.out hmz (by omega)
          have hf2 := World.ownsRow.frozenAt HI2.out m
          have hA2 := (own_cap HI2.out).2.2.2
          have HI3 : Hid ((w2.setCell ⟨A, m, none⟩ (.int .i64 (x : Int))).ownsRow base 2 1 (.slice (some ⟨A, 0, none⟩) n c) n (intsN (zs.set m x))) := (by rw [intsN_set]; exact (HI2.out.stored m _).1 : (w2.setCell ⟨A, m, none⟩ (.int .i64 (x : Int))).ownsRow base 2 1 (.slice (some ⟨A, 0, none⟩) n c) n (intsN (zs.set m x)))
          have HS3 : Hid (St4 base P S vl (w2.setCell ⟨A, m, none⟩ (.int .i64 (x : Int))) (stP S g r s xs (k + 1)).1) := HS2.out.put HI2.out m _
          have HF3 : Hid (FrL base (some A) w (w2.setCell ⟨A, m, none⟩ (.int .i64 (x : Int)))) := HF2.out.trans (FrL.put _ _ _ _ _)
          have HM3 : Hid ((stP S g r s xs (k + 1)).2.length = m + 1) := (by rw [HL2.out, if_neg (by decide), List.length_append, HM.out]; rfl : (stP S g r s xs (k + 1)).2.length = m + 1)
          have HT3 : Hid ((zs.set m x).take (m + 1) = (stP S g r s xs (k + 1)).2) := (by
            rw [List.take_succ_eq_append_getElem (by rw [List.length_set]; exact hmz), set_take _ _ _ _ (Nat.le_refl _), List.getElem_set_self, HT.out, HL2.out, if_neg (by decide)] : (zs.set m x).take (m + 1) = (stP S g r s xs (k + 1)).2)
          have HE3 : Hid (∀ t, k + 1 ≤ t → (zs.set m x)[t]? = xs[t]?) := fun t ht => by rw [List.getElem?_set_ne (by omega)]; exact HE.out t (by omega)
          have HZ3 : Hid ((zs.set m x).length = n) := (by rw [List.length_set, HZ.out] : (zs.set m x).length = n)
          go_wp2
          go_roundw
          case rel => exact ⟨_, _, _, _, _, _, _, _, _, _, _, _, _, _, _, _, _, _, _, _, _, _, _, ⟨k + 1, m + 1, zs.set m x, by omega, by omega, by go_num, by go_num, HZ3, HM3, HT3, HE3, HI3, HS3, HF3⟩, rfl⟩
          case measure => simp [intOf]; omega
        · have HM3 : Hid ((stP S g r s xs (k + 1)).2.length = m) := (by rw [HL2.out, if_pos rfl, HM.out] : (stP S g r s xs (k + 1)).2.length = m)
          have HT3 : Hid (zs.take m = (stP S g r s xs (k + 1)).2) := (by rw [HL2.out, if_pos rfl, HT.out] : zs.take m = (stP S g r s xs (k + 1)).2)
          have HE3 : Hid (∀ t, k + 1 ≤ t → zs[t]? = xs[t]?) := fun t ht => HE.out t (by omega)
          go_wp2
          go_roundw
          case rel => exact ⟨_, _, _, _, _, _, _, _, _, _, _, _, _, _, _, _, _, _, _, _, _, _, _, ⟨k + 1, m, zs, by omega, by omega, by go_num, by go_num, HZ, HM3, HT3, HE3, HI2, HS2, HF2⟩, rfl⟩
          case measure => simp [intOf]; omega
      · obtain rfl : k = n := by omega
        have hpos : 0 < k - m := by omega
        have hcl : ∀ ty, (Builtin.clear_ #[46] ty #[.slice (some ⟨A, m, none⟩) (k - m) (c - m)]).run Tryz.prog wr = .ok (.tuple #[]) (wr.setCells A m (List.replicate (k - m) (.int .i64 0))) := fun ty =>
          Go.Lib.run_clear_slice wr 46 2 ty (.int .i64 0) Tryz.underlying46 (fun w => by kernel_rfl) rfl rfl A m (k - m) (c - m) hpos (fun j hj => by
            rw [intsL_at HI.out (show m + j < zs.length by rw [HZ.out]; omega) (by omega)]; rfl) (fun j _ => World.ownsRow.frozenAt HI.out (m + j))
        have HFin : Hid (∃ ys, (wr.setCells A m (List.replicate (k - m) (.int .i64 0))).ownsRow base 2 1 (.slice (some ⟨A, 0, none⟩) k c) k ys ∧ ys.take m = (intsN zs).take m ∧ St4 base P S vl (wr.setCells A m (List.replicate (k - m) (.int .i64 0))) (stP S g r s xs k).1 ∧ FrL base (some A) wr (wr.setCells A m (List.replicate (k - m) (.int .i64 0)))) := clear_put (List.replicate (k - m) (.int .i64 0)) m HSr.out HI.out m (Nat.le_refl _)
        have hmcI : (m : Int) ≤ (c : Int) := by omega
        have hmnI : (m : Int) ≤ (k : Int) := by omega
        go_wp2
        go_ret
        obtain ⟨ys, h1, h2, h3, h4⟩ := HFin.out
        refine ⟨by rw [HOb.out]; exact HF.out.trans h4, m, HM.out, by omega, rfl, h3, fun _ => ?_⟩
        have h5 := own_to h1 (show m ≤ k by omega)
        rw [h2] at h5
        rw [← HT.out]
        unfold intsN at h5 ⊢
        rw [List.map_take]
        exact h5
end Go.Proofs.YtdlgehnoiaoneaaGreatDoor

namespace Go.Proofs.YtdlgehnoiaoneaaGreatDoor
open Go.RowKit Go.Maps

/-- The Roads that a search has left at each place: a table of rows of its own. -/
def Lft (base : Nat) (w : World) (vl : Value) (Ls : List (List Nat)) : Prop :=
  ∃ hs : List Value, w.ownsRow base 46 1 vl Ls.length hs ∧
    (∀ p (h : p < Ls.length), ∃ a c, hs[p]? = some (.slice a Ls[p].length c) ∧ (0 < Ls[p].length → w.ownsRow base 2 1 (.slice a Ls[p].length c) Ls[p].length (intsN Ls[p]))) ∧
    (∀ p q (hp : p < Ls.length) (hq : q < Ls.length), p ≠ q → 0 < Ls[p].length → 0 < Ls[q].length → hs[p]?.bind Value.ownBlock ≠ hs[q]?.bind Value.ownBlock)
theorem Lft.bel {base : Nat} {w w' : World} {vl : Value} {Ls : List (List Nat)} (h : Lft base w vl Ls) (hb : Bel w w') : Lft base w' vl Ls := by
  obtain ⟨hs, h1, h2, h3⟩ := h
  exact ⟨hs, own_bel h1 hb, fun p hp => by obtain ⟨a, c, e, hr⟩ := h2 p hp; exact ⟨a, c, e, fun h0 => own_bel (hr h0) hb⟩, h3⟩
theorem St4.putE {base lo P : Nat} {S : SrS} {vl : Value} {w : World} {s : Sig} {A n cap q : Nat} {e : TypeId} {xs : List Value} (h : St4 base P S vl w s) (hA : w.ownsRow lo e q (.slice (some ⟨A, 0, none⟩) n cap) n xs) (he : 131 ≠ e ∧ 112 ≠ e ∧ 114 ≠ e ∧ 3 ≠ e) (j : Nat) (u : Value) : St4 base P S vl (w.setCell ⟨A, j, none⟩ u) s := by
  obtain ⟨vb, vo, vi, ys, h1, h2, h3, h4, h5, h6⟩ := h.out
  exact ⟨⟨vb, vo, vi, ys, own_setO h1 hA he.1 j u, own_setO h2 hA he.2.1 j u, own_setO h3 hA he.2.2.1 j u, own_setO h4 hA he.2.2.2 j u, h5, h6⟩⟩
theorem St4.left {base P : Nat} {S : SrS} {vl : Value} {w : World} {s : Sig} (h : St4 base P S vl w s) : w.cell? ⟨P, 10, none⟩ = some vl ∧ P < w.heap.size := by
  obtain ⟨vb, vo, vi, ys, h1, _⟩ := h.out
  exact ⟨SrP.at h1 10 (by omega), (SrP.lt h1).2⟩
theorem box_row {w : World} {B : Nat} {v : Value} {t e : TypeId} {lo q n c : Nat} {xs : List Value} (h : BoxT w B v t) (hT : w.ownsRow lo e q (.slice (some ⟨B, 0, none⟩) n c) n xs) : t = e := by
  rcases hT.2 with ⟨h', _⟩ | ⟨g', cap', cur, h', hb, hg, _⟩
  · simp at h'
  · simp only [Value.slice.injEq, Option.some.injEq, Addr.mk.injEq, and_true, true_and] at h'
    obtain ⟨rfl, rfl⟩ := h'
    rw [show w.heap[B]? = _ from h] at hg
    injection hg with hg
    injection hg
/-- A row of the table is written, its header is stored. -/
theorem Lft.step {base : Nat} {Y Z : World} {Lt cL : Nat} {Ls : List (List Nat)} {p : Nat} (hp : p < Ls.length) {hs : List Value} {a : Option Addr} {c m : Nat} {kept : List Nat} (hm : kept.length = m) (hmn : m ≤ Ls[p].length)
    (h1 : Y.ownsRow base 46 1 (.slice (some ⟨Lt, 0, none⟩) Ls.length cL) Ls.length hs)
    (h2 : ∀ q (h : q < Ls.length), ∃ a c, hs[q]? = some (.slice a Ls[q].length c) ∧ (0 < Ls[q].length → Y.ownsRow base 2 1 (.slice a Ls[q].length c) Ls[q].length (intsN Ls[q])))
    (h3 : ∀ p q (hp : p < Ls.length) (hq : q < Ls.length), p ≠ q → 0 < Ls[p].length → 0 < Ls[q].length → hs[p]?.bind Value.ownBlock ≠ hs[q]?.bind Value.ownBlock)
    (ha : hs[p]? = some (.slice a Ls[p].length c)) (hF : FrL base (obL a Ls[p].length) Y Z) (hA : 0 < Ls[p].length → Y.ownsRow base 2 1 (.slice a Ls[p].length c) Ls[p].length (intsN Ls[p]))
    (hR : 0 < Ls[p].length → Z.ownsRow base 2 1 (.slice a m c) m (intsN kept)) :
    Z.ownsRow base 46 1 (.slice (some ⟨Lt, 0, none⟩) Ls.length cL) Ls.length hs ∧ Lft base (Z.setCell ⟨Lt, p, none⟩ (.slice a m c)) (.slice (some ⟨Lt, 0, none⟩) Ls.length cL) (Ls.set p kept) := by
  have hT : Z.ownsRow base 46 1 (.slice (some ⟨Lt, 0, none⟩) Ls.length cL) Ls.length hs := hF.own h1 (by decide) (fun g e ho => by
    unfold obL at ho
    split at ho
    · exact nomatch ho
    · rename_i h0
      exact own_apart h1 (hA (by omega)) (by decide) e (by cases a with | none => exact nomatch ho | some A => exact ho.symm))
  have hpl : p < hs.length := by have := h1.1; omega
  refine ⟨hT, hs.set p (.slice a m c), by rw [List.length_set]; exact (hT.stored p _).1, fun q hq => ?_, fun i j hi hj hij => ?_⟩
  · rw [List.length_set] at hq
    by_cases e : q = p
    · subst e
      refine ⟨a, c, ?_, fun h0 => ?_⟩
      · rw [List.getElem?_set_self hpl, List.getElem_set_self, hm]
      · simp only [List.getElem_set_self, hm] at h0 ⊢
        exact own_setO (hR (by omega)) hT (by decide) q _
    · obtain ⟨a', c', e1, hr⟩ := h2 q hq
      have eL : (Ls.set p kept)[q]'(by rw [List.length_set]; exact hq) = Ls[q] := List.getElem_set_ne (fun h => e h.symm) _
      refine ⟨a', c', ?_, fun h0 => ?_⟩
      · rw [List.getElem?_set_ne (fun h => e h.symm), eL]; exact e1
      · simp only [eL] at h0 ⊢
        refine own_setO (hF.own (hr h0) (by decide) (fun g eg ho => ?_)) hT (by decide) p _
        unfold obL at ho
        split at ho
        · exact nomatch ho
        · rename_i hn0
          refine h3 q p hq hp e h0 (by omega) ?_
          rw [e1, ha]
          simp only [Option.bind_some]
          rw [eg, ho]
          cases a <;> rfl
  · rw [List.length_set] at hi hj
    intro h0 h0'
    have key : ∀ t (ht : t < Ls.length), 0 < ((Ls.set p kept)[t]'(by rw [List.length_set]; exact ht)).length → 0 < Ls[t].length ∧ (hs.set p (.slice a m c))[t]?.bind Value.ownBlock = hs[t]?.bind Value.ownBlock := fun t ht h => by
      by_cases e : t = p
      · subst e
        rw [List.getElem_set_self, hm] at h
        refine ⟨by omega, ?_⟩
        rw [List.getElem?_set_self hpl, ha]
        cases a <;> rfl
      · rw [List.getElem_set_ne (fun h => e h.symm)] at h
        exact ⟨h, by rw [List.getElem?_set_ne (fun h => e h.symm)]⟩
    obtain ⟨k1, k2⟩ := key i hi h0
    obtain ⟨k3, k4⟩ := key j hj h0'
    rw [k2, k4]
    exact h3 i j hi hj hij k1 k3

set_option maxRecDepth 100000 in
set_option maxHeartbeats 4000000 in
theorem goOn_any (base P : Nat) (S : SrS) (vl : Value) (g : GraphD) (b1 : List Nat) (nb : Nat) (s : Sig) (r : Nat) (z : Cst) (Ls : List (List Nat)) (p : Nat) (w : World) (hS : St4 base P S vl w s) (hC : Stc base S g b1 nb w) (hL : Lft base w vl Ls) (hp : plcB S.back g r = (p : Int)) (hpL : p < Ls.length) (hr : r < S.n1) (hx : ∀ x ∈ Ls[p], x < S.n1) (hK : Okk S r z 90000000 90000000 s) (hz : 0 ≤ z.t ∧ z.t ≤ 1000000000000 ∧ 0 ≤ z.c ∧ z.c ≤ 1000000) (hm : Ls[p].length ≤ 1000000) (hLm : Ls.length ≤ 1000000) :
    Calls Tryz.prog 94 #[.pointer (some ⟨P, 0, none⟩), .int .i64 (r : Int)] w fun e w' => e = .returned (.tuple #[]) ∧ St4 base P S vl w' (stP S g r s Ls[p] Ls[p].length).1 ∧ Lft base w' vl (Ls.set p (stP S g r s Ls[p] Ls[p].length).2) ∧ Frx (fun k => k < base) w w' := by
  obtain ⟨hs, h1, h2, h3⟩ := hL
  obtain ⟨Lt, cL, rfl, hLb, _⟩ := own_in h1 (by omega)
  obtain ⟨a, c, ha, hA⟩ := h2 p hpL
  obtain ⟨W, HW⟩ : ∃ W, Hid (W = (w.alloc (.cells #[.pointer (some ⟨P, 0, none⟩)] 107)).alloc (.cells #[.int .i64 (r : Int)] 2)) := ⟨_, (rfl : (w.alloc (.cells #[.pointer (some ⟨P, 0, none⟩)] 107)).alloc (.cells #[.int .i64 (r : Int)] 2) = _)⟩
  have hBW : Bel w W := by rw [HW.out]; exact bel_alloc (bel_alloc (Bel.refl _) _) _
  have hXs : BoxT W w.heap.size (.pointer (some ⟨P, 0, none⟩)) 107 := by
    rw [HW.out]
    exact BoxT.fr (base := base) (heap_alloc_new w _) (Fr4.bel (bel_alloc (Bel.refl _) _)) (by decide)
  have hXr : BoxT W (w.heap.size + 1) (.int .i64 (r : Int)) 2 := by
    rw [HW.out]
    have h := heap_alloc_new (w.alloc (.cells #[.pointer (some ⟨P, 0, none⟩)] 107)) (.cells #[.int .i64 (r : Int)] 2)
    rw [show (w.alloc (.cells #[.pointer (some ⟨P, 0, none⟩)] 107)).heap.size = w.heap.size + 1 from Array.size_push _] at h
    exact h
  obtain ⟨Bs, eBs⟩ : ∃ n, w.heap.size = n := ⟨_, rfl⟩
  rw [eBs] at hXs hXr
  have hob : ∀ k, obL a Ls[p].length = some k → base ≤ k ∧ k < w.heap.size := fun k e => by
    unfold obL at e
    split at e
    · exact nomatch e
    · rename_i h0
      exact (hA (by omega)).lt k (by cases a with | none => exact nomatch e | some A => exact e)
  obtain ⟨xs, Hxs⟩ : ∃ l, Hid (Ls[p] = l) := ⟨_, (rfl : Ls[p] = _)⟩
  obtain ⟨n, HN⟩ : ∃ l, Hid (xs.length = l) := ⟨_, (rfl : xs.length = _)⟩
  obtain ⟨K0, HKl⟩ : ∃ l, Hid (Ls.length = l) := ⟨_, (rfl : Ls.length = _)⟩
  have hpK : p < K0 := by rw [← HKl.out]; exact hpL
  have hpKI : (p : Int) < (K0 : Int) := by omega
  have hKm : K0 ≤ 1000000 := by rw [← HKl.out]; exact hLm
  have HH2 : Hid (∀ q (h : q < Ls.length), ∃ a c, hs[q]? = some (.slice a Ls[q].length c) ∧ (0 < Ls[q].length → W.ownsRow base 2 1 (.slice a Ls[q].length c) Ls[q].length (intsN Ls[q]))) := fun q h => by
    obtain ⟨a, c, e, hr⟩ := h2 q h
    exact ⟨a, c, e, fun h0 => own_bel (hr h0) hBW⟩
  have HH3 : Hid (∀ p q (hp : p < Ls.length) (hq : q < Ls.length), p ≠ q → 0 < Ls[p].length → 0 < Ls[q].length → hs[p]?.bind Value.ownBlock ≠ hs[q]?.bind Value.ownBlock) := h3
  have HA1 : Hid (0 < Ls[p].length → W.ownsRow base 2 1 (.slice a Ls[p].length c) Ls[p].length (intsN Ls[p])) := fun h0 => own_bel (hA h0) hBW
  have HAt : Hid (hs[p]? = some (.slice a Ls[p].length c)) := ha
  have HT1 : Hid (W.ownsRow base 46 1 (.slice (some ⟨Lt, 0, none⟩) Ls.length cL) Ls.length hs) := own_bel h1 hBW
  have HS1 : Hid (St4 base P S (.slice (some ⟨Lt, 0, none⟩) Ls.length cL) W s) := hS.bel hBW
  have HC1 : Hid (Stc base S g b1 nb W) := hC.bel hBW
  have HK1 : Hid (Okk S r z 90000000 90000000 s) := hK
  have HOb : Hid (∀ k, obL a Ls[p].length = some k → base ≤ k ∧ k < Bs) := (by rw [← eBs]; exact hob : ∀ k, obL a Ls[p].length = some k → base ≤ k ∧ k < Bs)
  have HXr1 : Hid (BoxT W (Bs + 1) (.int .i64 (r : Int)) 2) := hXr
  have HXs1 : Hid (BoxT W Bs (.pointer (some ⟨P, 0, none⟩)) 107) := hXs
  have HBW : Hid (Bel w W) := hBW
  have HLb : Hid (base ≤ Lt) := hLb
  have hNe : Lt ≠ P := by
    obtain ⟨vb, vo, vi, ys, q1, _⟩ := hS.out
    intro e
    subst e
    exact own_apart h1 q1 (by decide) rfl rfl
  have HCl : Hid (∀ w', Bel W w' → w'.cell? ⟨Lt, p, none⟩ = some (.slice a n c) ∧ Lt < w'.heap.size) := fun w' h => by
    have hT := own_bel HT1.out h
    refine ⟨?_, (own_cap hT).2.2.2⟩
    rw [hT.cellAt p (by omega), HAt.out, Hxs.out, HN.out]
  obtain ⟨s0, sl0⟩ := BoxT.cell hXs
  obtain ⟨r0, rl0⟩ := BoxT.cell hXr
  have cPl : Calls Tryz.prog 72 #[.pointer (some ⟨P, 0, none⟩), .int .i64 (r : Int)] W fun e w' => e = .returned (.int .i64 (p : Int)) ∧ w' = W := by
    obtain ⟨vb, vo, vi, ys, q1, _⟩ := HS1.out.out
    rw [← hp]
    exact placeBy_any base P S vb _ vo vi g b1 r W q1 HC1.out.roads HC1.out.len hr
  clear hS hC h1 h2 h3 hA ha hob hK hBW hXs hXr hp hLb
  go_enter Tryz.func94, Tryz.ntmps94
  go_wp2_with fail
  rw [← HW.out]
  refine cPl.mono ?_
  rintro e w1 ⟨rfl, hw1⟩
  obtain rfl := hw1.symm
  clear cPl
  go_upto_region 2 with fail
  refine wp_region_noPanic ?_
  refine wp_region_held_drew (S := (fun w' => w'.cell? ⟨P, 10, none⟩ = some (.slice (some ⟨Lt, 0, none⟩) K0 cL) ∧ w'.cell? ⟨Bs, 0, none⟩ = some (.pointer (some ⟨P, 0, none⟩)))) (by kernel_rfl) (⟨by have h := HS1.out.left.1; rw [HKl.out] at h; exact h, s0⟩) (fun hHeld => ?_)
  have HY0 : Hid (Bel W W.drew) := (Bel.refl _).drew
  generalize W.drew = Y at hHeld HY0 ⊢
  refine tk 0 hHeld ?_; refine tk 1 hHeld ?_; refine tk 2 hHeld ?_; refine tk 3 hHeld ?_; refine tk 4 hHeld ?_; refine tk 5 hHeld ?_
  refine tk 6 hHeld ?_; refine tk 7 hHeld ?_; refine tk 8 hHeld ?_; refine tk 9 hHeld ?_; refine tk 10 hHeld ?_; refine tk 12 hHeld ?_
  obtain ⟨y1, y2⟩ := HCl.out Y HY0.out
  refine rd1 11 (fun K hK => ?_)
  go_simp
  refine hK.out _ _ (hHeld) (fun hHeld' => ?_)
  clear hK K hHeld
  have hHeld := hHeld'
  clear hHeld'
  try simp only [Act.put, List.setIfInBounds_toArray, List.set_cons_zero, List.set_cons_succ]
  clear y1 y2
  have cD := delete_any base P S (.slice (some ⟨Lt, 0, none⟩) Ls.length cL) g b1 nb Bs (Bs + 1) s r z Ls[p] a Ls[p].length c Y (HS1.out.bel HY0.out) (HC1.out.bel HY0.out) (HXs1.out.fr (Fr4.bel (base := base) HY0.out) (by decide)) (HXr1.out.fr (Fr4.bel (base := base) HY0.out) (by decide)) hr hx HK1.out hz rfl hm (fun h0 => own_bel (HA1.out h0) HY0.out) (fun e => absurd (HOb.out _ e.symm).2 (by omega)) (fun e => absurd (HOb.out _ e.symm).2 (by omega))
  have HcD : Hid (Calls Tryz.prog 100 #[.slice a n c, .func (.func 101) #[] #[.pointer (some ⟨Bs, 0, none⟩), .pointer (some ⟨Bs + 1, 0, none⟩)]] Y fun e w' => FrL base (obL a Ls[p].length) Y w' ∧ ∃ m, (stP S g r s Ls[p] Ls[p].length).2.length = m ∧ m ≤ Ls[p].length ∧ e = .returned (.slice a m c) ∧ St4 base P S (.slice (some ⟨Lt, 0, none⟩) Ls.length cL) w' (stP S g r s Ls[p] Ls[p].length).1 ∧ (0 < Ls[p].length → w'.ownsRow base 2 1 (.slice a m c) m (intsN (stP S g r s Ls[p] Ls[p].length).2))) := (by have e1 : Ls[p].length = n := (by rw [Hxs.out, HN.out]); rw [← e1]; exact cD : Calls _ _ _ _ _)
  clear cD
  refine rd1 13 (fun K hK => ?_)
  go_simp
  refine HcD.out.mono ?_
  rintro e wZ ⟨hFZ, m, hm1, hm2, rfl, hSZ, hRZ⟩
  go_wp2_with fail
  have HXZ : Hid (BoxT wZ Bs (.pointer (some ⟨P, 0, none⟩)) 107) := (HXs1.out.fr (Fr4.bel (base := base) HY0.out) (by decide)).frL hFZ (by decide) (fun e => absurd (HOb.out _ e.symm).2 (by omega))
  obtain ⟨l1, l2⟩ := St4.left hSZ
  rw [HKl.out] at l1
  refine hK.out _ _ (⟨l1, (BoxT.cell HXZ.out).1⟩) (fun hHeld' => ?_)
  clear hK K hHeld
  have hHeld := hHeld'
  clear hHeld'
  try simp only [Act.put, List.setIfInBounds_toArray, List.set_cons_zero, List.set_cons_succ]
  clear l1 l2
  have HLs := Lft.step hpL hm1 hm2 (own_bel HT1.out HY0.out) (fun q h => by obtain ⟨a, c, e, hr⟩ := HH2.out q h; exact ⟨a, c, e, fun h0 => own_bel (hr h0) HY0.out⟩) HH3.out HAt.out hFZ (fun h0 => own_bel (HA1.out h0) HY0.out) hRZ
  obtain ⟨hT, hLF⟩ := HLs
  have z1 : wZ.cell? ⟨Lt, p, none⟩ = some (.slice a n c) := (by rw [hT.cellAt p (by omega), HAt.out, Hxs.out, HN.out])
  have z2 := World.ownsRow.frozenAt hT p
  have z3 := (own_cap hT).2.2.2
  have HSF : Hid (St4 base P S (.slice (some ⟨Lt, 0, none⟩) Ls.length cL) (wZ.setCell ⟨Lt, p, none⟩ (.slice a m c)) (stP S g r s Ls[p] Ls[p].length).1) := hSZ.putE hT (by decide) p _
  have HLF : Hid (Lft base (wZ.setCell ⟨Lt, p, none⟩ (.slice a m c)) (.slice (some ⟨Lt, 0, none⟩) Ls.length cL) (Ls.set p (stP S g r s Ls[p] Ls[p].length).2)) := hLF
  have HFF : Hid (Frx (fun k => k < base) w (wZ.setCell ⟨Lt, p, none⟩ (.slice a m c))) := ((Frx.bel HBW.out).trans (Frx.bel HY0.out)).trans ((⟨hFZ.os, hFZ.tape, hFZ.output, hFZ.size, fun k hk hb => hFZ.block k hk (.inl hb) (fun e => by have := (HOb.out k e.symm).1; omega)⟩ : Frx (fun k => k < base) Y wZ).trans (Frx.stored (fun h => by have := HLb.out; omega)))
  have HbZ : Hid ((wZ.setCell ⟨Lt, p, none⟩ (.slice a m c)).cell? ⟨Bs, 0, none⟩ = some (.pointer (some ⟨P, 0, none⟩))) := (BoxT.cell ((HXZ.out : BoxT wZ Bs _ _).frL (FrL.put base wZ Lt p (.slice a m c)) (by decide) (fun e => by injection e with e; subst e; exact absurd (box_row HXZ.out hT) (by decide)))).1
  have HpZ := HSF.out.left.1
  rw [HKl.out] at HpZ
  clear hFZ hSZ hRZ hLF hT
  refine tk 14 hHeld ?_
  refine rd1 15 (fun K hK => ?_)
  go_simp
  refine hK.out _ _ (⟨HpZ, HbZ.out⟩) (fun hHeld' => ?_)
  clear hK K hHeld
  have hHeld := hHeld'
  clear hHeld'
  try simp only [Act.put, List.setIfInBounds_toArray, List.set_cons_zero, List.set_cons_succ]
  clear HpZ z1 z2 z3
  refine wpAnyH_done (by kernel_rfl) ?_ _
  refine NoPanic.normal ?_
  go_wp2
  go_end0
  exact ⟨rfl, HSF.out, HLF.out, HFF.out⟩
end Go.Proofs.YtdlgehnoiaoneaaGreatDoor
