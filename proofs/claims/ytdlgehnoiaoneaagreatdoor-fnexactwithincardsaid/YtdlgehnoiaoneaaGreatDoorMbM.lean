/-
  The model's search for least costs, row by row: mathematics.
-/
import Derived.Test.YtdlgehnoiaoneaaGreatDoorGN
namespace Go.Proofs.YtdlgehnoiaoneaaGreatDoor

/-- The cost of a Road, where there is one (a time below 0: none). -/
def mO (N : Nat) (dl : List Cst) (x : Nat) : Option Cst := if x < N ∧ 0 ≤ (cAt dl x).t then some (cAt dl x) else none
theorem mO_some {N : Nat} {dl : List Cst} {x : Nat} {c : Cst} : mO N dl x = some c ↔ x < N ∧ cAt dl x = c ∧ 0 ≤ c.t := by
 unfold mO
 split
 ·rename_i h
  constructor
  ·intro e
   injection e with e
   subst e
   exact ⟨h.1, rfl, h.2⟩
  ·rintro ⟨_, e, _⟩
   rw [e]
 ·rename_i h
  constructor
  ·intro e
   exact nomatch e
  ·rintro ⟨h1, rfl, h2⟩
   exact absurd ⟨h1, h2⟩ h
/-- What the model knows: costs, and which Roads are open. -/
structure Mst where
 dl : List Cst
 op : List Nat
/-- One step from a Road r with the cost z. -/
noncomputable def mRel (S : SrS) (g : GraphD) (r : Nat) (z : Cst) (D : List Nat) (s : Mst) (x : Nat) : Mst :=
 if x ∈ D ∨ bnd S g r x = true then s
 else if (cAt s.dl x).t < 0 then ⟨s.dl.set x (z.plus (stpC S.back g r x)), s.op ++ [x]⟩
 else if cLtB (z.plus (stpC S.back g r x)) (cAt s.dl x) = true then ⟨s.dl.set x (z.plus (stpC S.back g r x)), s.op⟩
 else s
noncomputable def mS (S : SrS) (g : GraphD) (r : Nat) (z : Cst) (D : List Nat) (s0 : Mst) (xs : List Nat) (k : Nat) : Mst := (xs.take k).foldl (mRel S g r z D) s0
theorem mS_succ (S : SrS) (g : GraphD) (r : Nat) (z : Cst) (D : List Nat) (s0 : Mst) (xs : List Nat) {k : Nat} (h : k < xs.length) : mS S g r z D s0 xs (k + 1) = mRel S g r z D (mS S g r z D s0 xs k) xs[k] := by
 unfold mS
 rw [List.take_succ_eq_append_getElem h, List.foldl_append]
 rfl
structure MI (S : SrS) (g : GraphD) (r : Nat) (z : Cst) (D : List Nat) (s0 : Mst) (xs : List Nat) (k : Nat) (s : Mst) : Prop where
 len : s.dl.length = S.n1
 own : ∀ x, x ∉ xs.take k → cAt s.dl x = cAt s0.dl x
 old : ∀ x ∈ D, cAt s.dl x = cAt s0.dl x
 chg : ∀ x ∈ xs.take k, cAt s.dl x = cAt s0.dl x ∨ (x ∉ D ∧ bnd S g r x = false ∧ cAt s.dl x = z.plus (stpC S.back g r x) ∧ ((cAt s0.dl x).t < 0 ∨ (z.plus (stpC S.back g r x)).lt (cAt s0.dl x)))
 stp : ∀ x ∈ xs.take k, x ∉ D → bnd S g r x = false → 0 ≤ (cAt s.dl x).t ∧ (cAt s.dl x).le (z.plus (stpC S.back g r x))
 op : ∀ x, x ∈ s.op ↔ x ∈ s0.op ∨ (x ∈ xs.take k ∧ (cAt s0.dl x).t < 0 ∧ 0 ≤ (cAt s.dl x).t)
 nd : s.op.Nodup
 ol : s.op.length ≤ s0.op.length + k
theorem MI.step {S : SrS} {g : GraphD} {r : Nat} {z : Cst} {D : List Nat} {s0 : Mst} {xs : List Nat} {k : Nat} {s : Mst} (h : MI S g r z D s0 xs k s) (hg : graphP g) (hl : g.roads.length = S.n1) (hk : k < xs.length) (hnd : xs.Nodup) (hx : ∀ x ∈ xs, x < S.n1) (hz : 0 ≤ z.t) (h0 : ∀ x ∈ s0.op, 0 ≤ (cAt s0.dl x).t) :
  MI S g r z D s0 xs (k + 1) (mRel S g r z D s xs[k]) := by
 have hxk : xs[k] ∉ xs.take k := nodup_notin hnd hk
 have hxn : xs[k] < S.n1 := hx _ (List.getElem_mem _)
 have etk : xs.take (k + 1) = xs.take k ++ [xs[k]] := List.take_succ_eq_append_getElem hk
 generalize xs[k] = x at *
 have hst := stp_bd (r := r) hg hl hxn
 have e0 : cAt s.dl x = cAt s0.dl x := h.own x hxk
 have hxl : x < s.dl.length := by rw [h.len]; exact hxn
 have mem : ∀ y, y ∈ xs.take (k + 1) ↔ y ∈ xs.take k ∨ y = x := fun y => by rw [etk, List.mem_append, List.mem_singleton]
 have hct : 0 ≤ (z.plus (stpC S.back g r x)).t := by show 0 ≤ z.t + _; omega
 unfold mRel
 by_cases hc : x ∈ D ∨ bnd S g r x = true
 ·rw [if_pos hc]
  refine ⟨h.len, fun y hy => h.own y (fun e => hy ((mem y).2 (.inl e))), h.old, fun y hy => ?_, fun y hy hD hb => ?_, fun y => ?_, h.nd, by have := h.ol; omega⟩
  ·rcases (mem y).1 hy with hy | rfl
   ·exact h.chg y hy
   ·exact .inl e0
  ·rcases (mem y).1 hy with hy | rfl
   ·exact h.stp y hy hD hb
   ·rcases hc with hc | hc
    ·exact absurd hc hD
    ·rw [hb] at hc; exact nomatch hc
  ·rw [h.op]
   constructor
   ·rintro (h1 | ⟨h1, h2⟩)
    ·exact .inl h1
    ·exact .inr ⟨(mem _).2 (.inl h1), h2⟩
   ·rintro (h1 | ⟨h1, h2, h3⟩)
    ·exact .inl h1
    ·rcases (mem _).1 h1 with h1 | rfl
     ·exact .inr ⟨h1, h2, h3⟩
     ·rw [e0] at h3; omega
 ·rw [if_neg hc]
  have hxD : x ∉ D := fun e => hc (.inl e)
  have hbx : bnd S g r x = false := by
   cases hb : bnd S g r x
   ·rfl
   ·exact absurd (.inr hb) hc
  -- the cost is set
  have set1 : ∀ op' : List Nat, ((cAt s0.dl x).t < 0 ∨ (z.plus (stpC S.back g r x)).lt (cAt s0.dl x)) → op'.Nodup → op'.length ≤ s0.op.length + (k + 1) → (∀ y, y ∈ op' ↔ y ∈ s.op ∨ (y = x ∧ (cAt s0.dl x).t < 0)) → MI S g r z D s0 xs (k + 1) ⟨s.dl.set x (z.plus (stpC S.back g r x)), op'⟩ := fun op' hbet hnd' hlen' hmem => by
   have bx : cAt (s.dl.set x (z.plus (stpC S.back g r x))) x = z.plus (stpC S.back g r x) := cAt_set_self hxl
   have bn : ∀ y, y ≠ x → cAt (s.dl.set x (z.plus (stpC S.back g r x))) y = cAt s.dl y := fun y hy => cAt_set_ne (fun e => hy e.symm)
   refine ⟨by simp [h.len], fun y hy => ?_, fun y hy => ?_, fun y hy => ?_, fun y hy hD hb => ?_, fun y => ?_, hnd', hlen'⟩
   ·rw [bn y (fun e => hy ((mem y).2 (.inr e)))]
    exact h.own y (fun e => hy ((mem y).2 (.inl e)))
   ·rw [bn y (fun e => hxD (e ▸ hy))]
    exact h.old y hy
   ·by_cases e : y = x
    ·subst e
     exact .inr ⟨hxD, hbx, bx, hbet⟩
    ·show cAt (s.dl.set x _) y = _ ∨ (_ ∧ _ ∧ cAt (s.dl.set x _) y = _ ∧ _)
     rw [bn y e]
     exact h.chg y (((mem y).1 hy).resolve_right e)
   ·by_cases e : y = x
    ·subst e
     rw [bx]
     exact ⟨hct, Cst.le_refl _⟩
    ·rw [bn y e]
     exact h.stp y (((mem y).1 hy).resolve_right e) hD hb
   ·rw [hmem, h.op]
    by_cases e : y = x
    ·subst e
     rw [bx]
     constructor
     ·rintro ((h1 | ⟨h1, _⟩) | ⟨_, h1⟩)
      ·exact .inl h1
      ·exact absurd h1 hxk
      ·exact .inr ⟨(mem _).2 (.inr rfl), h1, hct⟩
     ·rintro (h1 | ⟨_, h2, _⟩)
      ·exact .inl (.inl h1)
      ·exact .inr ⟨rfl, h2⟩
    ·rw [bn y e]
     constructor
     ·rintro ((h1 | ⟨h1, h2⟩) | ⟨h1, _⟩)
      ·exact .inl h1
      ·exact .inr ⟨(mem _).2 (.inl h1), h2⟩
      ·exact absurd h1 e
     ·rintro (h1 | ⟨h1, h2⟩)
      ·exact .inl (.inl h1)
      ·exact .inl (.inr ⟨((mem _).1 h1).resolve_right e, h2⟩)
  by_cases hneg : (cAt s.dl x).t < 0
  ·rw [if_pos hneg]
   rw [e0] at hneg
   have hxo : x ∉ s.op := fun hm => by
    rcases (h.op x).1 hm with h1 | ⟨h1, _⟩
    ·have := h0 x h1; omega
    ·exact hxk h1
   refine set1 _ (.inl hneg) ?_ (by have := h.ol; simp; omega) (fun y => ?_)
   ·rw [List.nodup_append]
    exact ⟨h.nd, by simp, fun a ha b hb => by rw [List.mem_singleton] at hb; rw [hb]; exact fun e => hxo (e ▸ ha)⟩
   ·rw [List.mem_append, List.mem_singleton]
    simp [hneg]
  ·rw [if_neg hneg]
   by_cases hlt : cLtB (z.plus (stpC S.back g r x)) (cAt s.dl x) = true
   ·rw [if_pos hlt]
    rw [e0] at hneg hlt
    exact set1 _ (.inr (cLtB_iff.1 hlt)) h.nd (by have := h.ol; omega) (fun y => by simp [hneg])
   ·rw [if_neg hlt]
    have hlt' : (cAt s.dl x).le (z.plus (stpC S.back g r x)) := cLtB_no.1 (by simpa using hlt)
    refine ⟨h.len, fun y hy => h.own y (fun e => hy ((mem y).2 (.inl e))), h.old, fun y hy => ?_, fun y hy hD hb => ?_, fun y => ?_, h.nd, by have := h.ol; omega⟩
    ·rcases (mem y).1 hy with hy | rfl
     ·exact h.chg y hy
     ·exact .inl e0
    ·rcases (mem y).1 hy with hy | rfl
     ·exact h.stp y hy hD hb
     ·exact ⟨by omega, hlt'⟩
    ·rw [h.op]
     constructor
     ·rintro (h1 | ⟨h1, h2⟩)
      ·exact .inl h1
      ·exact .inr ⟨(mem _).2 (.inl h1), h2⟩
     ·rintro (h1 | ⟨h1, h2, h3⟩)
      ·exact .inl h1
      ·rcases (mem _).1 h1 with h1 | rfl
       ·exact .inr ⟨h1, h2, h3⟩
       ·rw [e0] at h3; omega
theorem MI.all {S : SrS} {g : GraphD} {r : Nat} {z : Cst} {D : List Nat} {s0 : Mst} {xs : List Nat} (hg : graphP g) (hl : g.roads.length = S.n1) (hnd : xs.Nodup) (hx : ∀ x ∈ xs, x < S.n1) (hz : 0 ≤ z.t) (h0 : ∀ x ∈ s0.op, 0 ≤ (cAt s0.dl x).t) (h1 : s0.dl.length = S.n1) (h2 : s0.op.Nodup) :
  ∀ k, k ≤ xs.length → MI S g r z D s0 xs k (mS S g r z D s0 xs k)
 | 0, _ => ⟨h1, fun _ _ => rfl, fun _ _ => rfl, (fun _ h => nomatch h), (fun _ h => nomatch h), fun o => ⟨.inl, fun h => h.resolve_right (fun h => nomatch h.1)⟩, h2, Nat.le_refl _⟩
 | k + 1, hk => by
  rw [mS_succ S g r z D s0 xs hk]
  exact (MI.all hg hl hnd hx hz h0 h1 h2 k (by omega)).step hg hl hk hnd hx hz h0

/-- What holds as the model's search runs; D: the Roads that are done. -/
structure MJ (S : SrS) (g : GraphD) (st : Int) (D : List Nat) (s : Mst) : Prop where
 nd : D.Nodup
 dlt : ∀ x ∈ D, x < S.n1
 dj : Dj (IB S g st) (WB S g) (mO S.n1 s.dl) (· ∈ D)
 len : s.dl.length = S.n1
 und : s.op.Nodup
 opn : ∀ x, x ∈ s.op ↔ x < S.n1 ∧ x ∉ D ∧ 0 ≤ (cAt s.dl x).t
 cb : ∀ x c, mO S.n1 s.dl x = some c → 1 ≤ c.c ∧ c.c ≤ D.length + 1 ∧ 0 ≤ c.t ∧ c.t ≤ c.c * 1000020
 neg : ∀ x, x < S.n1 → (cAt s.dl x).t < 0 → (cAt s.dl x).t = -1
theorem MJ.dl' {S : SrS} {g : GraphD} {st : Int} {D : List Nat} {s : Mst} (h : MJ S g st D s) : D.length ≤ S.n1 := nodup_le _ _ h.nd h.dlt
theorem MJ.ol {S : SrS} {g : GraphD} {st : Int} {D : List Nat} {s : Mst} (h : MJ S g st D s) : s.op.length ≤ S.n1 := nodup_le _ _ h.und (fun x hx => ((h.opn x).1 hx).1)
theorem MJ.next {S : SrS} {g : GraphD} {st : Int} {D : List Nat} {s : Mst} (h : MJ S g st D s) (hg : graphP g) (hl : g.roads.length = S.n1) {x : Nat} {op' : List Nat} (hp : (x :: op').Perm s.op) (hmin : ∀ y ∈ s.op, (cAt s.dl x).le (cAt s.dl y)) {p : Nat} (hpp : plcB S.back g x = (p : Int)) :
  MJ S g st (x :: D) (mS S g x (cAt s.dl x) (x :: D) ⟨s.dl, op'⟩ (bgF g.roads S.n1 (!S.back) p) (bgF g.roads S.n1 (!S.back) p).length) := by
 have hN : S.n1 ≤ 8000 := by rw [← hl]; exact hg.1.2.1
 have hDl := h.dl'
 obtain ⟨hxn, hxD, hxt⟩ := (h.opn x).1 (hp.mem_iff.1 (List.mem_cons.2 (.inl rfl)))
 have hiff : ∀ y, y ∈ bgF g.roads S.n1 (!S.back) p ↔ y < S.n1 ∧ entB S.back g y = (p : Int) := fun y => bgF_iff hl
 have hnd := bgF_nodup g.roads S.n1 (!S.back) p
 generalize bgF g.roads S.n1 (!S.back) p = xs at *
 have hsub : ∀ y, y ∈ op' → y ∈ s.op := fun y hy => hp.mem_iff.1 (List.mem_cons.2 (.inr hy))
 have hundp : (x :: op').Nodup := hp.nodup_iff.2 h.und
 have hxz : mO S.n1 s.dl x = some (cAt s.dl x) := mO_some.2 ⟨hxn, rfl, hxt⟩
 have FA := MI.all (S := S) (g := g) (r := x) (z := cAt s.dl x) (D := x :: D) (s0 := ⟨s.dl, op'⟩) (xs := xs) hg hl hnd (fun y hy => ((hiff y).1 hy).1) hxt (fun y hy => ((h.opn y).1 (hsub y hy)).2.2) h.len (List.nodup_cons.1 hundp).2 xs.length (Nat.le_refl _)
 generalize mS S g x (cAt s.dl x) (x :: D) ⟨s.dl, op'⟩ xs xs.length = t at *
 have tk : xs.take xs.length = xs := List.take_length
 obtain ⟨cb1, cb2, cb3, cb4⟩ := h.cb _ _ hxz
 generalize hz : cAt s.dl x = z at *
 have hstp : ∀ y, y < S.n1 → 1 ≤ stpC S.back g x y ∧ stpC S.back g x y ≤ 1000020 := fun y hy => stp_bd hg hl hy
 have hchg : ∀ y, cAt t.dl y = cAt s.dl y ∨ (y ∈ xs ∧ y ∉ x :: D ∧ bnd S g x y = false ∧ cAt t.dl y = z.plus (stpC S.back g x y) ∧ ((cAt s.dl y).t < 0 ∨ (z.plus (stpC S.back g x y)).lt (cAt s.dl y))) := fun y => by
  by_cases hm : y ∈ xs
  ·rcases FA.chg y (by rw [tk]; exact hm) with h1 | h1
   ·exact .inl h1
   ·exact .inr ⟨hm, h1⟩
  ·exact .inl (FA.own y (by rw [tk]; exact hm))
 have hmO : ∀ y, cAt t.dl y = cAt s.dl y → mO S.n1 t.dl y = mO S.n1 s.dl y := fun y e => by unfold mO; rw [e]
 have hself : cAt t.dl x = cAt s.dl x := FA.old x (List.mem_cons.2 (.inl rfl))
 have hold : ∀ y, y ∈ D → cAt t.dl y = cAt s.dl y := fun y hy => FA.old y (List.mem_cons.2 (.inr hy))
 have hle : ∀ y cy, mO S.n1 s.dl y = some cy → oLe (mO S.n1 t.dl y) cy := fun y cy hd => by
  obtain ⟨h1, h2, h3⟩ := mO_some.1 hd
  rcases hchg y with e | ⟨_, _, _, e1, e2⟩
  ·exact ⟨cy, by rw [hmO y e]; exact hd, Cst.le_refl _⟩
  ·have := hstp y h1
   refine ⟨_, mO_some.2 ⟨h1, e1, ?_⟩, ?_⟩
   ·show 0 ≤ z.t + _; omega
   ·rw [← h2]
    rcases e2 with e2 | e2
    ·rw [h2] at e2; omega
    ·exact Cst.lt_le e2
 have hnew : ∀ y cy, mO S.n1 t.dl y = some cy → mO S.n1 s.dl y = some cy ∨ ∃ w, WB S g x y = some w ∧ cy = z.plus w := fun y cy hd => by
  rcases hchg y with e | ⟨hm, _, hb, e1, _⟩
  ·rw [← hmO y e]; exact .inl hd
  ·obtain ⟨h1, h2, _⟩ := mO_some.1 hd
   refine .inr ⟨_, WB_some.2 ⟨⟨hxn, h1, ?_, hb⟩, rfl⟩, h2.symm.trans e1⟩
   rw [hpp]; exact ((hiff y).1 hm).2
 refine ⟨List.nodup_cons.2 ⟨hxD, h.nd⟩, fun y hy => ?_, ?_, FA.len, FA.nd, fun y => ?_, fun y c hd => ?_, fun y hy hn => ?_⟩
 ·rcases List.mem_cons.1 hy with rfl | hy
  ·exact hxn
  ·exact h.dlt y hy
 ·have e : (fun y => y ∈ x :: D) = fun y => y ∈ D ∨ y = x := by
   funext y
   rw [List.mem_cons, or_comm]
  rw [e]
  refine Dj.next (c := z) (fun a y w hw => ?_) h.dj hxD hxz (fun y cy hy hd => ?_) (fun y hy => hmO y (hold y hy)) (hmO x hself) hle (fun y w hw => ?_) hnew
  ·obtain ⟨⟨_, h1, _⟩, rfl⟩ := WB_some.1 hw
   have := stp_bd (r := a) hg hl h1
   omega
  ·obtain ⟨h1, h2, h3⟩ := mO_some.1 hd
   rw [← h2]
   exact hmin y ((h.opn y).2 ⟨h1, hy, by rw [h2]; exact h3⟩)
  ·obtain ⟨⟨_, h1, h2, h3⟩, rfl⟩ := WB_some.1 hw
   have hm : y ∈ xs := (hiff y).2 ⟨h1, by rw [h2, hpp]⟩
   have hw0 := (hstp y h1).1
   by_cases hyD : y ∈ x :: D
   ·rcases List.mem_cons.1 hyD with rfl | hyD
    ·exact ⟨z, by rw [hmO y hself]; exact hxz, Cst.plus_le (by omega)⟩
    ·obtain ⟨cy, hcy⟩ := h.dj.done y hyD
     exact ⟨cy, by rw [hmO y (hold y hyD)]; exact hcy, Cst.le_trans (h.dj.low y x cy z hyD hxD hcy hxz) (Cst.plus_le (by omega))⟩
   ·obtain ⟨h4, h5⟩ := FA.stp y (by rw [tk]; exact hm) hyD h3
    exact ⟨_, mO_some.2 ⟨h1, rfl, h4⟩, h5⟩
 ·rw [FA.op, tk]
  have hopx : y ∈ op' ↔ y ∈ s.op ∧ y ≠ x := by
   rw [← hp.mem_iff, List.mem_cons]
   constructor
   ·intro hy
    exact ⟨.inr hy, fun e => (List.nodup_cons.1 hundp).1 (e ▸ hy)⟩
   ·rintro ⟨h1, h2⟩
    exact h1.resolve_left h2
  rw [hopx, h.opn, List.mem_cons]
  constructor
  ·rintro (⟨⟨h1, h2, h3⟩, h4⟩ | ⟨h1, h2, h3⟩)
   ·refine ⟨h1, fun hh => hh.elim h4 h2, ?_⟩
    rcases hchg y with e | ⟨_, _, _, e1, _⟩
    ·rw [e]; exact h3
    ·have := hstp y h1
     rw [e1]; show 0 ≤ z.t + _; omega
   ·refine ⟨((hiff y).1 h1).1, fun hh => ?_, h3⟩
    have e := FA.old y (List.mem_cons.2 hh)
    rw [e] at h3
    simp only at h2 h3
    omega
  ·rintro ⟨h1, h2, h3⟩
   rcases hchg y with e | ⟨hm, _, _, e1, e2⟩
   ·exact .inl ⟨⟨h1, fun hh => h2 (.inr hh), by rw [← e]; exact h3⟩, fun hh => h2 (.inl hh)⟩
   ·by_cases hn : (cAt s.dl y).t < 0
    ·exact .inr ⟨hm, hn, h3⟩
    ·exact .inl ⟨⟨h1, fun hh => h2 (.inr hh), by omega⟩, fun hh => h2 (.inl hh)⟩
 ·simp only [List.length_cons]
  rcases hnew y c hd with h1 | ⟨w, hw, rfl⟩
  ·have := h.cb y c h1
   omega
  ·obtain ⟨⟨_, k1, _⟩, rfl⟩ := WB_some.1 hw
   have := hstp y k1
   simp only [Cst.plus]
   omega
 ·rcases hchg y with e | ⟨_, _, _, e1, _⟩
  ·rw [e] at hn ⊢
   exact h.neg y hy hn
  ·have := hstp y hy
   rw [e1] at hn
   have hn' : z.t + stpC S.back g x y < 0 := hn
   omega
theorem MJ.least {S : SrS} {g : GraphD} {st : Int} {D : List Nat} {s : Mst} (h : MJ S g st D s) (h0 : s.op = []) : Least (IB S g st) (WB S g) (mO S.n1 s.dl) ∧ Counted (mO S.n1 s.dl) := by
 refine ⟨h.dj.least fun x c hd => ?_, ⟨fun x c hd => (h.cb x c hd).1⟩⟩
 obtain ⟨h1, h2, h3⟩ := mO_some.1 hd
 by_cases hm : x ∈ D
 ·exact hm
 ·have := (h.opn x).2 ⟨h1, hm, by rw [h2]; exact h3⟩
  rw [h0] at this
  exact absurd this (by simp)
/-- At the start: the first k Roads have been asked. -/
def mB (S : SrS) (g : GraphD) (st : Int) (k : Nat) : Mst :=
 ⟨(List.range S.n1).map fun i => if i < k then (if entB S.back g i = st then ⟨(rdAt g i).time, 1⟩ else ⟨-1, 0⟩) else ⟨0, 0⟩, (List.range k).filter fun i => decide (entB S.back g i = st)⟩
theorem mB_at {S : SrS} {g : GraphD} {st : Int} {k x : Nat} (hx : x < S.n1) : cAt (mB S g st k).dl x = if x < k then (if entB S.back g x = st then ⟨(rdAt g x).time, 1⟩ else ⟨-1, 0⟩) else ⟨0, 0⟩ := by
 unfold mB
 rw [cAt_eq (by simpa using hx)]
 simp
theorem MJ.start {S : SrS} {g : GraphD} {st : Int} (hg : graphP g) (hl : g.roads.length = S.n1) : MJ S g st [] (mB S g st S.n1) := by
 have hyes : ∀ x, x < S.n1 → entB S.back g x = st → cAt (mB S g st S.n1).dl x = ⟨(rdAt g x).time, 1⟩ := fun x h1 h2 => by rw [mB_at h1, if_pos h1, if_pos h2]
 have hno : ∀ x, x < S.n1 → entB S.back g x ≠ st → cAt (mB S g st S.n1).dl x = ⟨-1, 0⟩ := fun x h1 h2 => by rw [mB_at h1, if_pos h1, if_neg h2]
 have hd : ∀ x c, mO S.n1 (mB S g st S.n1).dl x = some c → x < S.n1 ∧ entB S.back g x = st ∧ c = ⟨(rdAt g x).time, 1⟩ := fun x c hd => by
  obtain ⟨h1, h2, h3⟩ := mO_some.1 hd
  by_cases e : entB S.back g x = st
  ·exact ⟨h1, e, by rw [← h2]; exact hyes x h1 e⟩
  ·rw [hno x h1 e] at h2
   rw [← h2] at h3
   exact absurd h3 (by decide)
 have hds : ∀ x, x < S.n1 → entB S.back g x = st → mO S.n1 (mB S g st S.n1).dl x = some ⟨(rdAt g x).time, 1⟩ := fun x h1 h2 => mO_some.2 ⟨h1, hyes x h1 h2, by have := rd_time hg hl h1; show 0 ≤ (rdAt g x).time; omega⟩
 refine ⟨List.nodup_nil, (fun _ h => nomatch h), ?_, by simp [mB], ?_, fun x => ?_, fun x c hh => ?_, fun x hx hn => ?_⟩
 ·have e : (fun x => x ∈ ([] : List Nat)) = fun _ => False := by
   funext x
   simp
  rw [e]
  refine Dj.start (fun x t hx => ?_) (fun x c hh => ?_)
  ·unfold IB at hx
   split at hx
   ·rename_i hc
    injection hx with hx
    rw [← hx]
    exact hds x hc.1 hc.2
   ·exact nomatch hx
  ·obtain ⟨h1, h2, rfl⟩ := hd x c hh
   unfold IB
   rw [if_pos ⟨h1, h2⟩]
   exact ⟨rfl, rfl⟩
 ·exact List.Nodup.sublist List.filter_sublist List.nodup_range
 ·unfold mB
  simp only [List.mem_filter, List.mem_range, decide_eq_true_eq, List.not_mem_nil, not_false_eq_true, true_and]
  constructor
  ·rintro ⟨h1, h2⟩
   refine ⟨h1, ?_⟩
   have := hyes x h1 h2
   have hb := rd_time hg hl h1
   unfold mB at this
   simp only at this
   rw [this]
   show 0 ≤ (rdAt g x).time
   omega
  ·rintro ⟨h1, h2⟩
   refine ⟨h1, ?_⟩
   by_cases e : entB S.back g x = st
   ·exact e
   ·have := hno x h1 e
    unfold mB at this
    simp only at this
    rw [this] at h2
    exact absurd h2 (by decide)
 ·obtain ⟨h1, _, rfl⟩ := hd x c hh
  have := rd_time hg hl h1
  simp only [List.length_nil]
  omega
 ·by_cases e : entB S.back g x = st
  ·rw [hyes x hx e] at hn
   have := rd_time hg hl hx
   have hn' : (rdAt g x).time < 0 := hn
   omega
  ·rw [hno x hx e]
/-- A cost, told: the time, or -1. -/
def tldC (c : Cst) : Int := if c.t = noT then -1 else c.t
end Go.Proofs.YtdlgehnoiaoneaaGreatDoor
