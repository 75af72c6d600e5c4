/-
  What holds of a search as it runs; when nothing is open, it knows the least costs: mathematics.
  How a search begins: what it knows once it has made its first offers: mathematics.
-/
import Derived.Test.YtdlgehnoiaoneaaGreatDoorGM
import Derived.Test.YtdlgehnoiaoneaaGreatDoorSchR
namespace Go.Proofs.YtdlgehnoiaoneaaGreatDoor

/-- Above every time. -/
abbrev noT : Int := 9223372036854775807
theorem lt_noT {t : Int} (h : t ≤ 2000000000000) : t ≠ noT := by
  show t ≠ 9223372036854775807
  omega
/-- The cost of a Road, where there is one. -/
def dO (N : Nat) (bl : List Cst) (x : Nat) : Option Cst := if x < N ∧ (cAt bl x).t ≠ noT then some (cAt bl x) else none
theorem dO_some {N : Nat} {bl : List Cst} {x : Nat} {c : Cst} : dO N bl x = some c ↔ x < N ∧ cAt bl x = c ∧ c.t ≠ noT := by
  unfold dO
  split
  · rename_i h
    constructor
    · intro e
      injection e with e
      subst e
      exact ⟨h.1, rfl, h.2⟩
    · rintro ⟨_, e, _⟩
      rw [e]
  · rename_i h
    constructor
    · intro e
      exact nomatch e
    · rintro ⟨h1, rfl, h2⟩
      exact absurd ⟨h1, h2⟩ h
/-- Where a search comes from to a Road. -/
def entB (back : Bool) (g : GraphD) (x : Nat) : Int := if back = true then (rdAt g x).to else (rdAt g x).fr
/-- The steps of a search, and what they cost. -/
noncomputable def WB (S : SrS) (g : GraphD) (r x : Nat) : Option Int := if r < S.n1 ∧ x < S.n1 ∧ entB S.back g x = plcB S.back g r ∧ bnd S g r x = false then some (stpC S.back g r x) else none
/-- The Roads that a search begins with. -/
def IB (S : SrS) (g : GraphD) (st : Int) (x : Nat) : Option Int := if x < S.n1 ∧ entB S.back g x = st then some (rdAt g x).time else none
theorem WB_some {S : SrS} {g : GraphD} {r x : Nat} {w : Int} : WB S g r x = some w ↔ (r < S.n1 ∧ x < S.n1 ∧ entB S.back g x = plcB S.back g r ∧ bnd S g r x = false) ∧ w = stpC S.back g r x := by
  unfold WB
  split
  · rename_i h
    simp [h, eq_comm]
  · rename_i h
    simp only [h, false_and]
    exact ⟨fun e => (nomatch e), fun e => e.elim⟩
theorem nodup_le : ∀ (N : Nat) (l : List Nat), l.Nodup → (∀ x ∈ l, x < N) → l.length ≤ N
  | 0, l, _, h => by
    cases l with
    | nil => simp
    | cons a l => exact absurd (h a (by simp)) (Nat.not_lt_zero _)
  | N + 1, l, hn, h => by
    by_cases hm : N ∈ l
    · have h1 := nodup_le N (l.erase N) (hn.erase N) (fun x hx => by
        have h2 := (hn.mem_erase_iff).1 hx
        have := h x h2.2
        have := h2.1
        omega)
      rw [List.length_erase_of_mem hm] at h1
      omega
    · have h1 := nodup_le N l hn (fun x hx => by
        have := h x hx
        have : x ≠ N := fun e => hm (e ▸ hx)
        omega)
      omega

/-- What holds as a search runs; D: the Roads that are done. -/
structure SJ (S : SrS) (g : GraphD) (st : Int) (D : List Nat) (s : Sig) (Ls : List (List Nat)) : Prop where
  nd : D.Nodup
  dlt : ∀ x ∈ D, x < S.n1
  dj : Dj (IB S g st) (WB S g) (dO S.n1 s.bl) (· ∈ D)
  bl : s.bl.length = S.n1
  pd : ∀ y ∈ s.pd, y < s.l.length
  und : (itm s).Nodup
  opn : ∀ x c, x ∉ D → dO S.n1 s.bl x = some c → (⟨c, x⟩ : OffD) ∈ itm s
  itl : ∀ o ∈ itm s, ∃ c, dO S.n1 s.bl o.r = some c ∧ c.le o.c ∧ (o.r ∈ D → c ≠ o.c)
  ok : okO s.l
  lr : ∀ y (h : y < s.l.length), s.l[y].r < S.n1
  ll : s.l.length ≤ (D.length + 1) * S.n1
  pl : s.pd.length ≤ s.l.length
  cb : ∀ x c, dO S.n1 s.bl x = some c → 1 ≤ c.c ∧ c.c ≤ D.length + 1 ∧ 0 ≤ c.t ∧ c.t ≤ c.c * 1000020
  lsn : ∀ p (h : p < Ls.length), Ls[p].Nodup ∧ ∀ x ∈ Ls[p], x < S.n1 ∧ entB S.back g x = (p : Int)
  lsd : ∀ p (h : p < Ls.length) x, x < S.n1 → entB S.back g x = (p : Int) → x ∉ Ls[p] → ∃ r c cx, r ∈ D ∧ plcB S.back g r = (p : Int) ∧ dO S.n1 s.bl r = some c ∧ dO S.n1 s.bl x = some cx ∧ cx.le (c.plus (rdAt g x).time)
  lsl : Ls.length = S.n0
  non : ∀ x, x < S.n1 → (cAt s.bl x).t = noT → (cAt s.bl x).c = 0
/-- .. with a number that is less each time. -/
def JJ (S : SrS) (g : GraphD) (st : Int) (s : Sig) (Ls : List (List Nat)) (n : Nat) : Prop := ∃ D, SJ S g st D s Ls ∧ n = (S.n1 - D.length) * (S.n1 + 1) + s.pd.length
theorem SJ.dl {S : SrS} {g : GraphD} {st : Int} {D : List Nat} {s : Sig} {Ls : List (List Nat)} (h : SJ S g st D s Ls) : D.length ≤ S.n1 := nodup_le _ _ h.nd h.dlt
theorem itm_pop {s : Sig} {y : Nat} {pd' : List Nat} (hp : (y :: pd').Perm s.pd) (hy : y < s.l.length) : (s.l[y] :: itm ⟨s.bl, s.l, pd'⟩).Perm (itm s) := by
  have h := hp.map fun y => s.l[y]?.getD ⟨⟨0, 0⟩, 0⟩
  rw [List.map_cons, List.getElem?_eq_getElem hy] at h
  exact h
theorem plcB_bd {S : SrS} {g : GraphD} {r : Nat} (hg : graphP g) (hl : g.roads.length = S.n1) (hr : r < S.n1) : 0 ≤ plcB S.back g r ∧ plcB S.back g r < g.places.length := by
  have hrg : r < g.roads.length := by rw [hl]; exact hr
  have h := roadB_out (hg.2.2.1 r hrg)
  rw [← rdAt_eq hrg] at h
  unfold plcB
  split
  · exact h.1
  · exact h.2.1
theorem le_next {a b : Cst} {w w' : Int} (h : a.le b) (hw : w ≤ w') : (a.plus w).le (b.plus w') := Cst.le_trans (Cst.plus_mono h w) (Cst.plus_w hw)

theorem SJ.skip {S : SrS} {g : GraphD} {st : Int} {D : List Nat} {s : Sig} {Ls : List (List Nat)} (h : SJ S g st D s Ls) {y : Nat} {pd' : List Nat} (hy : y < s.l.length) (hp : (y :: pd').Perm s.pd) (hc : cLtB (cAt s.bl s.l[y].r) s.l[y].c = true) : SJ S g st D ⟨s.bl, s.l, pd'⟩ Ls := by
  have hpm := itm_pop hp hy
  have hlen := hp.length_eq
  simp only [List.length_cons] at hlen
  refine ⟨h.nd, h.dlt, h.dj, h.bl, fun z hz => h.pd z (hp.mem_iff.1 (List.mem_cons.2 (.inr hz))), (List.nodup_cons.1 (hpm.nodup_iff.2 h.und)).2, fun x c hx hd => ?_, fun o ho => h.itl o (hpm.mem_iff.1 (List.mem_cons.2 (.inr ho))), h.ok, h.lr, h.ll, by have := h.pl; simp only; omega, h.cb, h.lsn, h.lsd, h.lsl, h.non⟩
  have h1 := hpm.mem_iff.2 (h.opn x c hx hd)
  rcases List.mem_cons.1 h1 with e | h1
  · exfalso
    rw [← e] at hc
    simp only at hc
    rw [(dO_some.1 hd).2.1, cLtB_iff] at hc
    unfold Cst.lt at hc
    omega
  · exact h1

theorem SJ.next {S : SrS} {g : GraphD} {st : Int} {D : List Nat} {s : Sig} {Ls : List (List Nat)} (h : SJ S g st D s Ls) (hg : graphP g) (hl : g.roads.length = S.n1) (hn0 : g.places.length = S.n0) {y : Nat} {pd' : List Nat} (hy : y < s.l.length) (hp : (y :: pd').Perm s.pd) (hmin : ∀ y' ∈ s.pd, okey s.l y ≤ okey s.l y') (hc : cLtB (cAt s.bl s.l[y].r) s.l[y].c = false) :
    ∃ (p : Nat) (hpL : p < Ls.length) (z : Cst), plcB S.back g s.l[y].r = (p : Int) ∧ (∀ x ∈ Ls[p], x < S.n1) ∧ cAt s.bl s.l[y].r = z ∧ (0 ≤ z.t ∧ z.t ≤ 1000000000000 ∧ 0 ≤ z.c ∧ z.c ≤ 1000000) ∧ Ls[p].length ≤ S.n1 ∧ s.l[y].r ∉ D ∧
      (stP S g s.l[y].r ⟨s.bl, s.l, pd'⟩ Ls[p] Ls[p].length).1.pd.length ≤ pd'.length + Ls[p].length ∧
      SJ S g st (s.l[y].r :: D) (stP S g s.l[y].r ⟨s.bl, s.l, pd'⟩ Ls[p] Ls[p].length).1 (Ls.set p (stP S g s.l[y].r ⟨s.bl, s.l, pd'⟩ Ls[p] Ls[p].length).2) := by
  have hN : S.n1 ≤ 8000 := by rw [← hl]; exact hg.1.2.1
  have hDl := h.dl
  have hpm := itm_pop hp hy
  have hlen := hp.length_eq
  simp only [List.length_cons] at hlen
  have hor := h.lr y hy
  have hoi : s.l[y] ∈ itm s := hpm.mem_iff.1 (List.mem_cons.2 (.inl rfl))
  obtain ⟨z, hz1, hz2, hz3⟩ := h.itl _ hoi
  obtain ⟨_, hz4, hz5⟩ := dO_some.1 hz1
  have hzo : z = s.l[y].c := by
    rw [hz4, cLtB_no] at hc
    exact Cst.le_antisymm hz2 hc
  have hrD : s.l[y].r ∉ D := fun hh => hz3 hh hzo
  have hzmin : ∀ x cx, x ∉ D → dO S.n1 s.bl x = some cx → z.le cx := fun x cx hx hd => by
    obtain ⟨y', hy', hm, e⟩ := (itm_mem h.pd).1 (h.opn x cx hx hd)
    have h1 := okey_lt h.ok hy' hy
    have h2 := hmin y' hm
    rw [decide_eq_false (by omega), e, ← hzo] at h1
    exact cLtB_no.1 h1
  obtain ⟨cb1, cb2, cb3, cb4⟩ := h.cb _ _ hz1
  have hzb : 0 ≤ z.t ∧ z.t ≤ 1000000000000 ∧ 0 ≤ z.c ∧ z.c ≤ 1000000 := by omega
  obtain ⟨pl0, pl1⟩ := plcB_bd hg hl hor
  obtain ⟨p, hpe⟩ : ∃ p : Nat, plcB S.back g s.l[y].r = (p : Int) := ⟨(plcB S.back g s.l[y].r).toNat, by omega⟩
  have hpL : p < Ls.length := by rw [h.lsl, ← hn0]; omega
  obtain ⟨ln1, ln2⟩ := h.lsn p hpL
  have hxlen : Ls[p].length ≤ S.n1 := nodup_le _ _ ln1 (fun x hx => (ln2 x hx).1)
  have hund : (s.l[y] :: itm ⟨s.bl, s.l, pd'⟩).Nodup := hpm.nodup_iff.2 h.und
  have FA := FI.all (S := S) (g := g) (r := s.l[y].r) (z := z) (s0 := ⟨s.bl, s.l, pd'⟩) (xs := Ls[p]) hg hl ln1 (fun x hx => (ln2 x hx).1) ⟨hzb.1, hzb.2.2.1, hzb.2.2.2⟩
    (fun o ho => by
      obtain ⟨c, h1, h2, _⟩ := h.itl o (hpm.mem_iff.1 (List.mem_cons.2 (.inr ho)))
      rw [(dO_some.1 h1).2.1]
      exact h2) h.bl hz4 (fun q hq => h.pd q (hp.mem_iff.1 (List.mem_cons.2 (.inr hq)))) h.ok h.lr (List.nodup_cons.1 hund).2 (by have := h.pl; simp only; omega) Ls[p].length (Nat.le_refl _)
  refine ⟨p, hpL, z, hpe, fun x hx => (ln2 x hx).1, hz4, hzb, hxlen, hrD, FA.pl, ?_⟩
  have hset : (stP S g s.l[y].r ⟨s.bl, s.l, pd'⟩ Ls[p] Ls[p].length).2.length ≤ Ls[p].length := by
    have := FA.sub.length_le
    rw [List.take_length] at this
    exact this
  generalize (stP S g s.l[y].r ⟨s.bl, s.l, pd'⟩ Ls[p] Ls[p].length).2 = kept at *
  generalize (stP S g s.l[y].r ⟨s.bl, s.l, pd'⟩ Ls[p] Ls[p].length).1 = t at *
  generalize hxs : Ls[p] = xs at *
  have tk : xs.take xs.length = xs := List.take_length
  generalize hro : s.l[y].r = r at *
  have hoo : s.l[y] = ⟨z, r⟩ := by rw [hzo, ← hro]
  -- what has changed
  have hstp : ∀ x, x < S.n1 → 1 ≤ stpC S.back g r x ∧ stpC S.back g r x ≤ 1000020 := fun x hx => stp_bd hg hl hx
  have hchg : ∀ x, cAt t.bl x = cAt s.bl x ∨ (x ∈ xs ∧ bnd S g r x = false ∧ cAt t.bl x = z.plus (stpC S.back g r x) ∧ (z.plus (stpC S.back g r x)).lt (cAt s.bl x)) := fun x => by
    by_cases hm : x ∈ xs
    · rcases FA.chg x (by rw [tk]; exact hm) with h1 | h1
      · exact .inl h1
      · exact .inr ⟨hm, h1⟩
    · exact .inl (FA.own x (by rw [tk]; exact hm))
  have hle : ∀ x cx, dO S.n1 s.bl x = some cx → ∃ e, dO S.n1 t.bl x = some e ∧ e.le cx := fun x cx hd => by
    obtain ⟨h1, h2, h3⟩ := dO_some.1 hd
    rcases hchg x with e | ⟨_, _, e1, e2⟩
    · exact ⟨cx, dO_some.2 ⟨h1, e.trans h2, h3⟩, Cst.le_refl _⟩
    · refine ⟨_, dO_some.2 ⟨h1, e1, ?_⟩, by rw [← h2]; exact Cst.lt_le e2⟩
      have := hstp x h1
      simp only [Cst.plus]
      exact lt_noT (by omega)
  have hold : ∀ x, x ∈ D → cAt t.bl x = cAt s.bl x := fun x hx => by
    rcases hchg x with e | ⟨_, _, e1, e2⟩
    · exact e
    · exfalso
      obtain ⟨cx, hcx⟩ := h.dj.done x hx
      have h1 := h.dj.low x r cx z hx hrD hcx hz1
      obtain ⟨h2, h3, _⟩ := dO_some.1 hcx
      rw [h3] at e2
      have := hstp x h2
      unfold Cst.lt Cst.plus at e2
      unfold Cst.le at h1
      simp only at e2
      omega
  have hself : cAt t.bl r = cAt s.bl r := FA.at_.trans hz4.symm
  have hdO : ∀ x, cAt t.bl x = cAt s.bl x → dO S.n1 t.bl x = dO S.n1 s.bl x := fun x e => by unfold dO; rw [e]
  have hnew : ∀ x cx, dO S.n1 t.bl x = some cx → dO S.n1 s.bl x = some cx ∨ (x ∈ xs ∧ cAt t.bl x ≠ cAt s.bl x ∧ ∃ w, WB S g r x = some w ∧ cx = z.plus w) := fun x cx hd => by
    rcases hchg x with e | ⟨hm, hb, e1, e2⟩
    · rw [← hdO x e]
      exact .inl hd
    · obtain ⟨h1, h2, _⟩ := dO_some.1 hd
      refine .inr ⟨hm, fun e => ?_, _, WB_some.2 ⟨⟨hor, h1, ?_, hb⟩, rfl⟩, h2.symm.trans e1⟩
      · rw [← e, e1] at e2
        unfold Cst.lt at e2
        omega
      · rw [hpe]
        exact (ln2 x hm).2
  have hnx : ∀ x, cAt t.bl x ≠ cAt s.bl x → x ∉ r :: D := fun x hne hm => by
    rcases List.mem_cons.1 hm with rfl | hm
    · exact hne hself
    · exact hne (hold x hm)
  have hfin : ∀ x w, x < S.n1 → (cAt t.bl x).le (z.plus w) → w ≤ 1000020 → dO S.n1 t.bl x = some (cAt t.bl x) := fun x w hx h1 hw => by
    refine dO_some.2 ⟨hx, rfl, ?_⟩
    unfold Cst.le Cst.plus at h1
    simp only at h1
    exact lt_noT (by omega)
  have hdj : Dj (IB S g st) (WB S g) (dO S.n1 t.bl) fun x => x ∈ D ∨ x = r := by
    refine Dj.next (fun a x w hw => ?_) h.dj hrD hz1 (fun x cx hx hd => hzmin x cx hx hd) (fun x hx => hdO x (hold x hx)) (hdO r hself) (fun x cx hd => hle x cx hd) (fun x w hw => ?_) (fun x cx hd => (hnew x cx hd).imp id fun h => h.2.2)
    · obtain ⟨⟨_, h1, _⟩, rfl⟩ := WB_some.1 hw
      have := stp_bd (r := a) hg hl h1
      omega
    · obtain ⟨⟨_, h1, h2, h3⟩, rfl⟩ := WB_some.1 hw
      by_cases hm : x ∈ xs
      · have h4 := FA.stp x (by rw [tk]; exact hm) h3
        exact ⟨_, hfin x _ h1 h4 (hstp x h1).2, h4⟩
      · have hm' : x ∉ Ls[p] := by rw [hxs]; exact hm
        obtain ⟨r0, c0, cx, k1, k2, k3, k4, k5⟩ := h.lsd p hpL x h1 (by rw [h2, hpe]) hm'
        obtain ⟨e, e1, e2⟩ := hle x cx k4
        refine ⟨e, e1, Cst.le_trans e2 (Cst.le_trans k5 (le_next (h.dj.low r0 r c0 z k1 hrD k3 hz1) ?_))⟩
        have := (tnC_bd g (trnA S.back r x) (trnB S.back r x)).1
        unfold stpC
        omega
  refine ⟨List.nodup_cons.2 ⟨hrD, h.nd⟩, fun x hx => ?_, ?_, FA.len, FA.pd, FA.und, fun x c hx hd => ?_, fun o ho => ?_, FA.ok, FA.lr, ?_, FA.pll, fun x c hd => ?_, fun q hq => ?_, fun q hq x hx he hm => ?_, by rw [List.length_set]; exact h.lsl, fun x hx hn => ?_⟩
  · rcases List.mem_cons.1 hx with rfl | hx
    · exact hor
    · exact h.dlt x hx
  · have e : (fun x => x ∈ r :: D) = fun x => x ∈ D ∨ x = r := by
      funext x
      rw [List.mem_cons, or_comm]
    rw [e]
    exact hdj
  · have hx1 : x ∉ D := fun hh => hx (List.mem_cons.2 (.inr hh))
    rw [FA.it, tk]
    rcases hnew x c hd with h1 | ⟨hm, hne, _⟩
    · have h2 := hpm.mem_iff.2 (h.opn x c hx1 h1)
      rcases List.mem_cons.1 h2 with e | h2
      · exfalso
        rw [hoo] at e
        injection e with _ e
        exact hx (List.mem_cons.2 (.inl e))
      · exact .inl h2
    · exact .inr ⟨hm, (dO_some.1 hd).2.1.symm, hne⟩
  · have hit := (FA.it o).1 ho
    rw [tk] at hit
    rcases hit with h1 | ⟨h1, h2, h3⟩
    · obtain ⟨c, k1, k2, k3⟩ := h.itl o (hpm.mem_iff.1 (List.mem_cons.2 (.inr h1)))
      obtain ⟨e, e1, e2⟩ := hle o.r c k1
      refine ⟨e, e1, Cst.le_trans e2 k2, fun hm => ?_⟩
      rcases List.mem_cons.1 hm with hm | hm
      · intro ee
        have e3 := (dO_some.1 e1).2.1
        rw [hm, hself, hz4] at e3
        have : o = s.l[y] := by
          rw [hoo]
          cases o
          simp only at hm ee
          rw [hm, ← ee, ← e3]
        rw [this] at h1
        exact (List.nodup_cons.1 hund).1 h1
      · have e3 := hdO o.r (hold o.r hm)
        rw [e1, k1] at e3
        injection e3 with e3
        rw [e3]
        exact k3 hm
    · refine ⟨o.c, ?_, Cst.le_refl _, fun hm => absurd hm (hnx _ h3)⟩
      rw [h2]
      rcases hchg o.r with e | ⟨_, _, e1, e2⟩
      · exact absurd e h3
      · refine dO_some.2 ⟨(ln2 _ h1).1, rfl, ?_⟩
        have := hstp o.r (ln2 _ h1).1
        rw [e1]
        simp only [Cst.plus]
        exact lt_noT (by omega)
  · have h1 := FA.ll
    have h2 := h.ll
    simp only [List.length_cons]
    have e : (D.length + 1 + 1) * S.n1 = (D.length + 1) * S.n1 + S.n1 := by rw [Nat.add_mul (D.length + 1) 1 S.n1, Nat.one_mul]
    rw [e]
    simp only at h1
    omega
  · simp only [List.length_cons]
    rcases hnew x c hd with h1 | ⟨hm, _, w, hw, rfl⟩
    · have := h.cb x c h1
      omega
    · obtain ⟨⟨_, k1, _⟩, rfl⟩ := WB_some.1 hw
      have := hstp x k1
      simp only [Cst.plus]
      omega
  · rw [List.length_set] at hq
    by_cases e : q = p
    · subst e
      rw [List.getElem_set_self]
      have h1 := FA.sub
      rw [tk] at h1
      exact ⟨List.Nodup.sublist h1 ln1, fun x hx => ln2 x (h1.subset hx)⟩
    · rw [List.getElem_set_ne (fun h => e h.symm)]
      exact h.lsn q hq
  · rw [List.length_set] at hq
    have old : x ∉ Ls[q] → ∃ r_1 c cx, r_1 ∈ r :: D ∧ plcB S.back g r_1 = (q : Int) ∧ dO S.n1 t.bl r_1 = some c ∧ dO S.n1 t.bl x = some cx ∧ cx.le (c.plus (rdAt g x).time) := fun hm' => by
      obtain ⟨r0, c0, cx, k1, k2, k3, k4, k5⟩ := h.lsd q hq x hx he hm'
      obtain ⟨e, e1, e2⟩ := hle x cx k4
      exact ⟨r0, c0, e, List.mem_cons.2 (.inr k1), k2, by rw [hdO r0 (hold r0 k1)]; exact k3, e1, Cst.le_trans e2 k5⟩
    by_cases e : q = p
    · subst e
      rw [List.getElem_set_self] at hm
      by_cases hmx : x ∈ xs
      · have h1 := FA.gone x (by rw [tk]; exact hmx) hm
        have hti := (roadB_out (hg.2.2.1 x (by rw [hl]; exact hx))).2.2.2.1
        rw [← rdAt_eq (by rw [hl]; exact hx)] at hti
        exact ⟨r, z, _, List.mem_cons.2 (.inl rfl), hpe, by rw [hdO r hself]; exact hz1, hfin x _ hx h1 (by omega), h1⟩
      · exact old (by rw [hxs]; exact hmx)
    · rw [List.getElem_set_ne (fun h => e h.symm)] at hm
      exact old hm
  · rcases hchg x with e | ⟨_, _, e1, _⟩
    · rw [e] at hn ⊢
      exact h.non x hx hn
    · exfalso
      have := hstp x hx
      rw [e1] at hn
      simp only [Cst.plus] at hn
      exact lt_noT (by omega) hn

theorem runJ {S : SrS} {g : GraphD} {st : Int} (hg : graphP g) (hl : g.roads.length = S.n1) (hn0 : g.places.length = S.n0) : RunJ S g (JJ S g st) := by
  have hN : S.n1 ≤ 8000 := by rw [← hl]; exact hg.1.2.1
  have hP : S.n0 ≤ 5000 := by rw [← hn0]; exact hg.1.1
  have big : ∀ {D s Ls}, SJ S g st D s Ls → s.l.length ≤ 64008000 ∧ s.pd.length ≤ 64008000 := fun {D s Ls} h => by
    have h1 := h.ll
    have h2 := h.pl
    have h3 := h.dl
    have h4 : (D.length + 1) * S.n1 ≤ 8001 * 8000 := Nat.mul_le_mul (by omega) hN
    omega
  refine ⟨fun s Ls n hj => ?_, fun s Ls n y pd' hy hj hp hmin hc => ?_, fun s Ls n y pd' hy hj hp hmin hc => ?_⟩
  · obtain ⟨D, h, _⟩ := hj
    have := big h
    exact ⟨h.ok, h.pd, by omega, by omega, h.bl, by omega, by rw [h.lsl]; omega, h.lr⟩
  · obtain ⟨D, h, rfl⟩ := hj
    have hlen := hp.length_eq
    simp only [List.length_cons] at hlen
    exact ⟨_, by simp only; omega, D, h.skip hy hp hc, rfl⟩
  · obtain ⟨D, h, rfl⟩ := hj
    have hlen := hp.length_eq
    simp only [List.length_cons] at hlen
    obtain ⟨p, hpL, z, h1, h2, h3, h4, h5, h6, h7, h8⟩ := h.next hg hl hn0 hy hp hmin hc
    have := big h
    refine ⟨p, hpL, z, h1, h2, ⟨h.bl, h3, fun q hq => h.pd q (hp.mem_iff.1 (List.mem_cons.2 (.inr hq))), h.ok, by simp only; omega, by simp only; omega⟩, h4, by omega, _, ?_, _, h8, rfl⟩
    have hd := h8.dl
    simp only [List.length_cons] at hd ⊢
    have e : (S.n1 - D.length) * (S.n1 + 1) = (S.n1 - (D.length + 1)) * (S.n1 + 1) + (S.n1 + 1) := by
      have : S.n1 - D.length = (S.n1 - (D.length + 1)) + 1 := by omega
      rw [this, Nat.add_mul, Nat.one_mul]
    rw [e]
    omega
/-- When nothing is open the least costs are known. -/
theorem SJ.least {S : SrS} {g : GraphD} {st : Int} {D : List Nat} {s : Sig} {Ls : List (List Nat)} (h : SJ S g st D s Ls) (h0 : s.pd = []) : Least (IB S g st) (WB S g) (dO S.n1 s.bl) ∧ Counted (dO S.n1 s.bl) := by
  refine ⟨h.dj.least fun x c hd => ?_, ⟨fun x c hd => (h.cb x c hd).1⟩⟩
  by_cases hm : x ∈ D
  · exact hm
  · have := h.opn x c hm hd
    unfold itm at this
    rw [h0] at this
    exact absurd this (by simp)
end Go.Proofs.YtdlgehnoiaoneaaGreatDoor

namespace Go.Proofs.YtdlgehnoiaoneaaGreatDoor

/-- Nothing is known of any Road. -/
def sig0 (N : Nat) : Sig := ⟨List.replicate N ⟨noT, 0⟩, [], []⟩
/-- The first k of the Roads with which a search begins are offered. -/
def begS (g : GraphD) (N : Nat) (xs : List Nat) (k : Nat) : Sig := (xs.take k).foldl (fun s x => s.offer x ⟨(rdAt g x).time, 1⟩) (sig0 N)
theorem begS_zero (g : GraphD) (N : Nat) (xs : List Nat) : begS g N xs 0 = sig0 N := rfl
theorem begS_succ (g : GraphD) (N : Nat) (xs : List Nat) {k : Nat} (h : k < xs.length) : begS g N xs (k + 1) = (begS g N xs k).offer xs[k] ⟨(rdAt g xs[k]).time, 1⟩ := by
  unfold begS
  rw [List.take_succ_eq_append_getElem h, List.foldl_append]
  rfl
/-- What holds then. -/
structure BI (g : GraphD) (N : Nat) (xs : List Nat) (k : Nat) (s : Sig) : Prop where
  len : s.bl.length = N
  yes : ∀ x ∈ xs.take k, cAt s.bl x = ⟨(rdAt g x).time, 1⟩
  no : ∀ x, x < N → x ∉ xs.take k → cAt s.bl x = ⟨noT, 0⟩
  it : ∀ o, o ∈ itm s ↔ o.r ∈ xs.take k ∧ o.c = ⟨(rdAt g o.r).time, 1⟩
  und : (itm s).Nodup
  pd : ∀ y ∈ s.pd, y < s.l.length
  ok : okO s.l
  lr : ∀ y (h : y < s.l.length), s.l[y].r < N
  ll : s.l.length = k
  pl : s.pd.length = k
theorem BI.all {g : GraphD} {N : Nat} {xs : List Nat} (hnd : xs.Nodup) (hx : ∀ x ∈ xs, x < N) (ht : ∀ x, x < N → 0 ≤ (rdAt g x).time) : ∀ k, k ≤ xs.length → BI g N xs k (begS g N xs k)
  | 0, _ => ⟨by simp [begS_zero, sig0], (fun _ h => nomatch h), fun x hx _ => by
      rw [begS_zero]
      unfold sig0
      rw [cAt_eq (by simpa using hx)]
      simp, fun o => ⟨fun h => by simp [begS_zero, sig0, itm] at h, fun h => nomatch h.1⟩, by simp [begS_zero, sig0, itm], fun y h => by simp [begS_zero, sig0] at h, fun i h => by simp [begS_zero, sig0] at h, fun i h => by simp [begS_zero, sig0] at h, by simp [begS_zero, sig0], by simp [begS_zero, sig0]⟩
  | k + 1, hk => by
    have h := BI.all hnd hx ht k (by omega)
    have hxk : xs[k] ∉ xs.take k := nodup_notin hnd hk
    have hxn : xs[k] < N := hx _ (List.getElem_mem _)
    have etk : xs.take (k + 1) = xs.take k ++ [xs[k]] := List.take_succ_eq_append_getElem hk
    rw [begS_succ g N xs hk]
    generalize xs[k] = x at *
    generalize begS g N xs k = s at *
    have mem : ∀ y, y ∈ xs.take (k + 1) ↔ y ∈ xs.take k ∨ y = x := fun y => by rw [etk, List.mem_append, List.mem_singleton]
    have hxl : x < s.bl.length := by rw [h.len]; exact hxn
    have bx : cAt (s.offer x ⟨(rdAt g x).time, 1⟩).bl x = ⟨(rdAt g x).time, 1⟩ := cAt_set_self hxl
    have bn : ∀ y, y ≠ x → cAt (s.offer x ⟨(rdAt g x).time, 1⟩).bl y = cAt s.bl y := fun y hy => cAt_set_ne (fun e => hy e.symm)
    refine ⟨by unfold Sig.offer; simp [h.len], fun y hy => ?_, fun y hy hm => ?_, fun o => ?_, ?_, fun y hy => ?_, ?_, ?_, ?_, ?_⟩
    · by_cases e : y = x
      · subst e
        exact bx
      · rw [bn y e]
        exact h.yes y (((mem y).1 hy).resolve_right e)
    · have hm' := fun e => hm ((mem y).2 e)
      rw [bn y (fun e => hm' (.inr e))]
      exact h.no y hy (fun e => hm' (.inl e))
    · rw [itm_offer h.pd, List.mem_cons, h.it, mem]
      constructor
      · rintro (rfl | ⟨h1, h2⟩)
        · exact ⟨.inr rfl, rfl⟩
        · exact ⟨.inl h1, h2⟩
      · rintro ⟨h1 | h1, h2⟩
        · exact .inr ⟨h1, h2⟩
        · left
          cases o
          simp only at h1 h2
          rw [h1] at h2 ⊢
          rw [h2]
    · rw [itm_offer h.pd, List.nodup_cons]
      exact ⟨fun hm => hxk ((h.it _).1 hm).1, h.und⟩
    · unfold Sig.offer at hy ⊢
      simp only [List.length_append, List.length_singleton]
      rcases List.mem_cons.1 hy with rfl | hy
      · omega
      · have := h.pd y hy
        omega
    · unfold Sig.offer
      intro i hi
      simp only [List.length_append, List.length_singleton] at hi
      by_cases e : i < s.l.length
      · rw [List.getElem_append_left e]
        exact h.ok i e
      · obtain rfl : i = s.l.length := by omega
        have := ht x hxn
        simp only [List.getElem_concat_length]
        omega
    · unfold Sig.offer
      intro i hi
      simp only [List.length_append, List.length_singleton] at hi
      by_cases e : i < s.l.length
      · simp only [List.getElem_append_left e]
        exact h.lr i e
      · obtain rfl : i = s.l.length := by omega
        simp only [List.getElem_concat_length]
        exact hxn
    · unfold Sig.offer
      simp [h.ll]
    · unfold Sig.offer
      simp [h.pl]
theorem rd_time {g : GraphD} {N x : Nat} (hg : graphP g) (hl : g.roads.length = N) (hx : x < N) : 1 ≤ (rdAt g x).time ∧ (rdAt g x).time ≤ 1000000 := by
  have hrg : x < g.roads.length := by rw [hl]; exact hx
  have h := (roadB_out (hg.2.2.1 x hrg)).2.2.2.1
  rw [← rdAt_eq hrg] at h
  exact h
/-- The rows of a network hold just the Roads of a place. -/
theorem bgF_iff {g : GraphD} {N : Nat} (hl : g.roads.length = N) {back : Bool} {p x : Nat} : x ∈ bgF g.roads N (!back) p ↔ x < N ∧ entB back g x = (p : Int) := by
  unfold bgF
  rw [List.mem_filter, List.mem_range]
  refine and_congr_right fun hx => ?_
  have hrg : x < g.roads.length := by rw [hl]; exact hx
  rw [List.getElem?_eq_getElem hrg]
  simp only [Option.any_some, endR, entB, rdAt_eq hrg]
  cases back <;> simp
theorem bgF_nodup (rs : List RoadD) (k : Nat) (t : Bool) (p : Nat) : (bgF rs k t p).Nodup := by
  unfold bgF
  exact List.Nodup.sublist List.filter_sublist List.nodup_range
/-- A search that begins. -/
theorem SJ.start {S : SrS} {g : GraphD} {p : Nat} (hg : graphP g) (hl : g.roads.length = S.n1) (Ls : List (List Nat)) (hLs : Ls = (List.range S.n0).map (bgF g.roads S.n1 (!S.back))) :
    SJ S g (p : Int) [] (begS g S.n1 (bgF g.roads S.n1 (!S.back) p) (bgF g.roads S.n1 (!S.back) p).length) Ls := by
  have hiff : ∀ q x, x ∈ bgF g.roads S.n1 (!S.back) q ↔ x < S.n1 ∧ entB S.back g x = (q : Int) := fun q x => bgF_iff hl
  have h := BI.all (g := g) (N := S.n1) (xs := bgF g.roads S.n1 (!S.back) p) (bgF_nodup _ _ _ _) (fun x hx => ((hiff p x).1 hx).1) (fun x hx => by have := rd_time hg hl hx; omega) _ (Nat.le_refl _)
  have hlen := bgF_len g.roads S.n1 (!S.back) p
  generalize begS g S.n1 (bgF g.roads S.n1 (!S.back) p) (bgF g.roads S.n1 (!S.back) p).length = s at *
  have tk : (bgF g.roads S.n1 (!S.back) p).take (bgF g.roads S.n1 (!S.back) p).length = bgF g.roads S.n1 (!S.back) p := List.take_length
  have hyes : ∀ x, x < S.n1 → entB S.back g x = (p : Int) → cAt s.bl x = ⟨(rdAt g x).time, 1⟩ := fun x h1 h2 => h.yes x (by rw [tk]; exact (hiff p x).2 ⟨h1, h2⟩)
  have hno : ∀ x, x < S.n1 → entB S.back g x ≠ (p : Int) → cAt s.bl x = ⟨noT, 0⟩ := fun x h1 h2 => h.no x h1 (by rw [tk]; exact fun hm => h2 ((hiff p x).1 hm).2)
  have hd : ∀ x c, dO S.n1 s.bl x = some c → x < S.n1 ∧ entB S.back g x = (p : Int) ∧ c = ⟨(rdAt g x).time, 1⟩ := fun x c hd => by
    obtain ⟨h1, h2, h3⟩ := dO_some.1 hd
    by_cases e : entB S.back g x = (p : Int)
    · exact ⟨h1, e, by rw [← h2]; exact hyes x h1 e⟩
    · rw [hno x h1 e] at h2
      rw [← h2] at h3
      exact absurd rfl h3
  have hds : ∀ x, x < S.n1 → entB S.back g x = (p : Int) → dO S.n1 s.bl x = some ⟨(rdAt g x).time, 1⟩ := fun x h1 h2 => dO_some.2 ⟨h1, hyes x h1 h2, lt_noT (by have := rd_time hg hl h1; show (rdAt g x).time ≤ _; omega)⟩
  refine ⟨List.nodup_nil, (fun _ h => nomatch h), ?_, h.len, h.pd, h.und, fun x c _ hh => ?_, fun o ho => ?_, h.ok, h.lr, ?_, ?_, fun x c hh => ?_, fun q hq => ?_, fun q hq x h1 h2 hm => ?_, ?_, fun x hx hn => ?_⟩
  · have e : (fun x => x ∈ ([] : List Nat)) = fun _ => False := by
      funext x
      simp
    rw [e]
    refine Dj.start (fun x t hx => ?_) (fun x c hh => ?_)
    · unfold IB at hx
      split at hx
      · rename_i hc
        injection hx with hx
        rw [← hx]
        exact hds x hc.1 hc.2
      · exact nomatch hx
    · obtain ⟨h1, h2, rfl⟩ := hd x c hh
      unfold IB
      rw [if_pos ⟨h1, h2⟩]
      exact ⟨rfl, rfl⟩
  · obtain ⟨h1, h2, rfl⟩ := hd x c hh
    rw [h.it, tk]
    exact ⟨(hiff p x).2 ⟨h1, h2⟩, rfl⟩
  · obtain ⟨h1, h2⟩ := (h.it o).1 ho
    rw [tk] at h1
    obtain ⟨h3, h4⟩ := (hiff p o.r).1 h1
    exact ⟨_, hds o.r h3 h4, by rw [h2]; exact Cst.le_refl _, (fun hm => nomatch hm)⟩
  · rw [h.ll]
    simp only [List.length_nil]
    omega
  · rw [h.ll, h.pl]
    exact Nat.le_refl _
  · obtain ⟨h1, _, rfl⟩ := hd x c hh
    have := rd_time hg hl h1
    simp only [List.length_nil]
    omega
  · subst hLs
    rw [List.length_map, List.length_range] at hq
    simp only [List.getElem_map, List.getElem_range]
    exact ⟨bgF_nodup _ _ _ _, fun x hx => (hiff q x).1 hx⟩
  · subst hLs
    rw [List.length_map, List.length_range] at hq
    simp only [List.getElem_map, List.getElem_range] at hm
    exact absurd ((hiff q x).2 ⟨h1, h2⟩) hm
  · rw [hLs, List.length_map, List.length_range]
  · by_cases e : entB S.back g x = (p : Int)
    · rw [hyes x hx e] at hn
      exact absurd hn (lt_noT (by have := rd_time hg hl hx; show (rdAt g x).time ≤ _; omega))
    · rw [hno x hx e]
end Go.Proofs.YtdlgehnoiaoneaaGreatDoor
