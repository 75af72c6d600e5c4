/-
  The model's search for least times, row by row, and what it tells of each place: mathematics.
-/
import Derived.Test.YtdlgehnoiaoneaaGreatDoorBpM
namespace Go.Proofs.YtdlgehnoiaoneaaGreatDoor

section
variable {I : Nat → Option Int} {W : Nat → Nat → Option Int} {d : Nat → Option Int}
/-- What stands while least times are looked for. -/
structure DjT (I : Nat → Option Int) (W : Nat → Nat → Option Int) (d : Nat → Option Int) (D : Nat → Prop) : Prop where
 begins : ∀ x t, I x = some t → ∃ y, d x = some y ∧ y ≤ t
 step : ∀ r x c w, D r → d r = some c → W r x = some w → ∃ y, d x = some y ∧ y ≤ c + w
 from' : ∀ x c, d x = some c → I x = some c ∨ ∃ r cr w, D r ∧ d r = some cr ∧ W r x = some w ∧ c = cr + w
 done : ∀ r, D r → ∃ c, d r = some c
 low : ∀ r x cr cx, D r → ¬ D x → d r = some cr → d x = some cx → cr ≤ cx
theorem DjT.least {D : Nat → Prop} (h : DjT I W d D) (hall : ∀ x c, d x = some c → D x) : LeastT I W d :=
 ⟨h.begins, fun r x c w hr hw => h.step r x c w (hall r c hr) hr hw, fun x c hx => (h.from' x c hx).imp id fun ⟨r, cr, w, _, h1, h2, h3⟩ => ⟨r, cr, w, h1, h2, h3⟩⟩
theorem DjT.start (h1 : ∀ x t, I x = some t → d x = some t) (h2 : ∀ x c, d x = some c → I x = some c) : DjT I W d fun _ => False :=
 ⟨fun x t hx => ⟨_, h1 x t hx, Int.le_refl _⟩, fun _ _ _ _ h => h.elim, fun x c hx => .inl (h2 x c hx), fun _ h => h.elim, fun _ _ _ _ h => h.elim⟩
theorem DjT.next {e : Nat → Option Int} {D : Nat → Prop} {r : Nat} {c : Int} (hW : ∀ r x w, W r x = some w → 0 ≤ w) (h : DjT I W d D) (hr : ¬ D r) (hc : d r = some c) (hmin : ∀ x cx, ¬ D x → d x = some cx → c ≤ cx)
  (hold : ∀ x, D x → e x = d x) (hself : e r = d r) (hle : ∀ x cx, d x = some cx → ∃ y, e x = some y ∧ y ≤ cx) (hst : ∀ x w, W r x = some w → ∃ y, e x = some y ∧ y ≤ c + w) (hnew : ∀ x cx, e x = some cx → d x = some cx ∨ ∃ w, W r x = some w ∧ cx = c + w) :
  DjT I W e fun x => D x ∨ x = r := by
 have hd : ∀ x, (D x ∨ x = r) → e x = d x := fun x hx => by
  rcases hx with hx | rfl
  ·exact hold x hx
  ·exact hself
 refine ⟨fun x t hx => ?_, fun y x cy w hy hcy hw => ?_, fun x cx hx => ?_, fun y hy => ?_, fun y x cy cx hy hx hcy hcx => ?_⟩
 ·obtain ⟨z, hz, hle'⟩ := h.begins x t hx
  obtain ⟨q, hq, hl⟩ := hle x z hz
  exact ⟨q, hq, by omega⟩
 ·rw [hd y hy] at hcy
  rcases hy with hy | rfl
  ·obtain ⟨z, hz, hle'⟩ := h.step y x cy w hy hcy hw
   obtain ⟨q, hq, hl⟩ := hle x z hz
   exact ⟨q, hq, by omega⟩
  ·rw [hc] at hcy
   injection hcy with hcy
   subst hcy
   exact hst x w hw
 ·rcases hnew x cx hx with h1 | ⟨w, h1, rfl⟩
  ·rcases h.from' x cx h1 with h2 | ⟨y, cy, w, h2, h3, h4, h5⟩
   ·exact .inl h2
   ·exact .inr ⟨y, cy, w, .inl h2, by rw [hold y h2]; exact h3, h4, h5⟩
  ·exact .inr ⟨r, c, w, .inr rfl, by rw [hself]; exact hc, h1, rfl⟩
 ·rcases hy with hy | rfl
  ·rw [hold y hy]; exact h.done y hy
  ·rw [hself]; exact ⟨c, hc⟩
 ·have hx' : ¬ D x := fun hh => hx (.inl hh)
  rw [hd y hy] at hcy
  have hyc : cy ≤ c := by
   rcases hy with hy | rfl
   ·exact h.low y r cy c hy hr hcy hc
   ·rw [hc] at hcy; injection hcy with hcy; omega
  rcases hnew x cx hcx with h1 | ⟨w, h1, rfl⟩
  ·have := hmin x cx hx' h1; omega
  ·have := hW r x w h1; omega
end

/-- One of a list of numbers. -/
def iAt (l : List Int) (i : Nat) : Int := l[i]?.getD 0
theorem iAt_eq {l : List Int} {i : Nat} (h : i < l.length) : iAt l i = l[i] := by simp [iAt, h]
theorem iAt_set_self {l : List Int} {i : Nat} {v : Int} (h : i < l.length) : iAt (l.set i v) i = v := by simp [iAt, h]
theorem iAt_set_ne {l : List Int} {i j : Nat} {v : Int} (h : i ≠ j) : iAt (l.set i v) j = iAt l j := by simp [iAt, h]
/-- The time of a Road, where there is one. -/
def eO (N : Nat) (tl : List Int) (x : Nat) : Option Int := if x < N ∧ 0 ≤ iAt tl x then some (iAt tl x) else none
theorem eO_some {N : Nat} {tl : List Int} {x : Nat} {c : Int} : eO N tl x = some c ↔ x < N ∧ iAt tl x = c ∧ 0 ≤ c := by
 unfold eO
 split
 ·rename_i h
  constructor
  ·intro e
   injection e with e
   subst e
   exact ⟨h.1, rfl, h.2⟩
  ·rintro ⟨_, e, _⟩
   rw [e]
 ·rename_i h
  constructor
  ·intro e
   exact nomatch e
  ·rintro ⟨h1, rfl, h2⟩
   exact absurd ⟨h1, h2⟩ h
structure Rst where
 tl : List Int
 op : List Nat
/-- One step from a Road r with the time z. -/
noncomputable def rRel (S : SrS) (g : GraphD) (r : Nat) (z : Int) (D : List Nat) (s : Rst) (x : Nat) : Rst :=
 if x ∈ D ∨ bnd S g r x = true then s
 else if iAt s.tl x < 0 then ⟨s.tl.set x (z + stpC S.back g r x), s.op ++ [x]⟩
 else if z + stpC S.back g r x < iAt s.tl x then ⟨s.tl.set x (z + stpC S.back g r x), s.op⟩
 else s
noncomputable def rS (S : SrS) (g : GraphD) (r : Nat) (z : Int) (D : List Nat) (s0 : Rst) (xs : List Nat) (k : Nat) : Rst := (xs.take k).foldl (rRel S g r z D) s0
theorem rS_succ (S : SrS) (g : GraphD) (r : Nat) (z : Int) (D : List Nat) (s0 : Rst) (xs : List Nat) {k : Nat} (h : k < xs.length) : rS S g r z D s0 xs (k + 1) = rRel S g r z D (rS S g r z D s0 xs k) xs[k] := by
 unfold rS
 rw [List.take_succ_eq_append_getElem h, List.foldl_append]
 rfl
theorem rRel_done {S : SrS} {g : GraphD} {r : Nat} {z : Int} {D : List Nat} {s : Rst} {x : Nat} (h : x ∈ D) : rRel S g r z D s x = s := by
 unfold rRel
 rw [if_pos (.inl h)]
theorem rRel_ban {S : SrS} {g : GraphD} {r : Nat} {z : Int} {D : List Nat} {s : Rst} {x : Nat} (h : bnd S g r x = true) : rRel S g r z D s x = s := by
 unfold rRel
 rw [if_pos (.inr h)]
theorem rRel_new {S : SrS} {g : GraphD} {r : Nat} {z c : Int} {D : List Nat} {s : Rst} {x : Nat} (h1 : x ∉ D) (h2 : bnd S g r x = false) (h3 : iAt s.tl x < 0) (hc : z + stpC S.back g r x = c) : rRel S g r z D s x = ⟨s.tl.set x c, s.op ++ [x]⟩ := by
 unfold rRel
 rw [if_neg (fun h => h.elim h1 (fun h => by rw [h2] at h; exact nomatch h)), if_pos h3, hc]
theorem rRel_less {S : SrS} {g : GraphD} {r : Nat} {z c : Int} {D : List Nat} {s : Rst} {x : Nat} (h1 : x ∉ D) (h2 : bnd S g r x = false) (h3 : ¬ iAt s.tl x < 0) (hc : z + stpC S.back g r x = c) (h4 : c < iAt s.tl x) : rRel S g r z D s x = ⟨s.tl.set x c, s.op⟩ := by
 unfold rRel
 rw [if_neg (fun h => h.elim h1 (fun h => by rw [h2] at h; exact nomatch h)), if_neg h3, hc, if_pos h4]
theorem rRel_same {S : SrS} {g : GraphD} {r : Nat} {z c : Int} {D : List Nat} {s : Rst} {x : Nat} (h1 : x ∉ D) (h2 : bnd S g r x = false) (h3 : ¬ iAt s.tl x < 0) (hc : z + stpC S.back g r x = c) (h4 : ¬ c < iAt s.tl x) : rRel S g r z D s x = s := by
 unfold rRel
 rw [if_neg (fun h => h.elim h1 (fun h => by rw [h2] at h; exact nomatch h)), if_neg h3, hc, if_neg h4]
structure RI (S : SrS) (g : GraphD) (r : Nat) (z : Int) (D : List Nat) (s0 : Rst) (xs : List Nat) (k : Nat) (s : Rst) : Prop where
 len : s.tl.length = S.n1
 own : ∀ x, x ∉ xs.take k → iAt s.tl x = iAt s0.tl x
 old : ∀ x ∈ D, iAt s.tl x = iAt s0.tl x
 chg : ∀ x ∈ xs.take k, iAt s.tl x = iAt s0.tl x ∨ (x ∉ D ∧ bnd S g r x = false ∧ iAt s.tl x = z + stpC S.back g r x ∧ (iAt s0.tl x < 0 ∨ z + stpC S.back g r x < iAt s0.tl x))
 stp : ∀ x ∈ xs.take k, x ∉ D → bnd S g r x = false → 0 ≤ iAt s.tl x ∧ iAt s.tl x ≤ z + stpC S.back g r x
 op : ∀ x, x ∈ s.op ↔ x ∈ s0.op ∨ (x ∈ xs.take k ∧ iAt s0.tl x < 0 ∧ 0 ≤ iAt s.tl x)
 nd : s.op.Nodup
theorem RI.step {S : SrS} {g : GraphD} {r : Nat} {z : Int} {D : List Nat} {s0 : Rst} {xs : List Nat} {k : Nat} {s : Rst} (h : RI S g r z D s0 xs k s) (hg : graphP g) (hl : g.roads.length = S.n1) (hk : k < xs.length) (hnd : xs.Nodup) (hx : ∀ x ∈ xs, x < S.n1) (hz : 0 ≤ z) (h0 : ∀ x ∈ s0.op, 0 ≤ iAt s0.tl x) :
  RI S g r z D s0 xs (k + 1) (rRel S g r z D s xs[k]) := by
 have hxk : xs[k] ∉ xs.take k := nodup_notin hnd hk
 have hxn : xs[k] < S.n1 := hx _ (List.getElem_mem _)
 have etk : xs.take (k + 1) = xs.take k ++ [xs[k]] := List.take_succ_eq_append_getElem hk
 generalize xs[k] = x at *
 have hst := stp_bd (r := r) hg hl hxn
 have e0 : iAt s.tl x = iAt s0.tl x := h.own x hxk
 have hxl : x < s.tl.length := by rw [h.len]; exact hxn
 have mem : ∀ y, y ∈ xs.take (k + 1) ↔ y ∈ xs.take k ∨ y = x := fun y => by rw [etk, List.mem_append, List.mem_singleton]
 have hsame : (x ∈ D ∨ bnd S g r x = true ∨ (0 ≤ iAt s.tl x ∧ iAt s.tl x ≤ z + stpC S.back g r x)) → RI S g r z D s0 xs (k + 1) s := fun hc => by
  refine ⟨h.len, fun y hy => h.own y (fun e => hy ((mem y).2 (.inl e))), h.old, fun y hy => ?_, fun y hy hD hb => ?_, fun y => ?_, h.nd⟩
  ·rcases (mem y).1 hy with hy | rfl
   ·exact h.chg y hy
   ·exact .inl e0
  ·rcases (mem y).1 hy with hy | rfl
   ·exact h.stp y hy hD hb
   ·rcases hc with hc | hc | hc
    ·exact absurd hc hD
    ·rw [hb] at hc; exact nomatch hc
    ·exact hc
  ·rw [h.op]
   constructor
   ·rintro (h1 | ⟨h1, h2⟩)
    ·exact .inl h1
    ·exact .inr ⟨(mem _).2 (.inl h1), h2⟩
   ·rintro (h1 | ⟨h1, h2, h3⟩)
    ·exact .inl h1
    ·rcases (mem _).1 h1 with h1 | rfl
     ·exact .inr ⟨h1, h2, h3⟩
     ·rw [e0] at h3; omega
 by_cases hc : x ∈ D ∨ bnd S g r x = true
 ·have e : rRel S g r z D s x = s := by unfold rRel; rw [if_pos hc]
  rw [e]
  exact hsame (hc.elim .inl fun h => .inr (.inl h))
 have hxD : x ∉ D := fun e => hc (.inl e)
 have hbx : bnd S g r x = false := by
  cases hb : bnd S g r x
  ·rfl
  ·exact absurd (.inr hb) hc
 have set1 : ∀ op' : List Nat, (iAt s0.tl x < 0 ∨ z + stpC S.back g r x < iAt s0.tl x) → op'.Nodup → (∀ y, y ∈ op' ↔ y ∈ s.op ∨ (y = x ∧ iAt s0.tl x < 0)) → RI S g r z D s0 xs (k + 1) ⟨s.tl.set x (z + stpC S.back g r x), op'⟩ := fun op' hbet hnd' hmem => by
  have bx : iAt (s.tl.set x (z + stpC S.back g r x)) x = z + stpC S.back g r x := iAt_set_self hxl
  have bn : ∀ y, y ≠ x → iAt (s.tl.set x (z + stpC S.back g r x)) y = iAt s.tl y := fun y hy => iAt_set_ne (fun e => hy e.symm)
  refine ⟨by simp [h.len], fun y hy => ?_, fun y hy => ?_, fun y hy => ?_, fun y hy hD hb => ?_, fun y => ?_, hnd'⟩
  ·rw [bn y (fun e => hy ((mem y).2 (.inr e)))]
   exact h.own y (fun e => hy ((mem y).2 (.inl e)))
  ·rw [bn y (fun e => hxD (e ▸ hy))]
   exact h.old y hy
  ·by_cases e : y = x
   ·subst e
    exact .inr ⟨hxD, hbx, bx, hbet⟩
   ·show iAt (s.tl.set x _) y = _ ∨ (_ ∧ _ ∧ iAt (s.tl.set x _) y = _ ∧ _)
    rw [bn y e]
    exact h.chg y (((mem y).1 hy).resolve_right e)
  ·by_cases e : y = x
   ·subst e
    rw [bx]
    omega
   ·rw [bn y e]
    exact h.stp y (((mem y).1 hy).resolve_right e) hD hb
  ·rw [hmem, h.op]
   by_cases e : y = x
   ·subst e
    rw [bx]
    constructor
    ·rintro ((h1 | ⟨h1, _⟩) | ⟨_, h1⟩)
     ·exact .inl h1
     ·exact absurd h1 hxk
     ·exact .inr ⟨(mem _).2 (.inr rfl), h1, by omega⟩
    ·rintro (h1 | ⟨_, h2, _⟩)
     ·exact .inl (.inl h1)
     ·exact .inr ⟨rfl, h2⟩
   ·rw [bn y e]
    constructor
    ·rintro ((h1 | ⟨h1, h2⟩) | ⟨h1, _⟩)
     ·exact .inl h1
     ·exact .inr ⟨(mem _).2 (.inl h1), h2⟩
     ·exact absurd h1 e
    ·rintro (h1 | ⟨h1, h2⟩)
     ·exact .inl (.inl h1)
     ·exact .inl (.inr ⟨((mem _).1 h1).resolve_right e, h2⟩)
 by_cases hneg : iAt s.tl x < 0
 ·rw [rRel_new hxD hbx hneg rfl]
  rw [e0] at hneg
  have hxo : x ∉ s.op := fun hm => by
   rcases (h.op x).1 hm with h1 | ⟨h1, _⟩
   ·have := h0 x h1; omega
   ·exact hxk h1
  refine set1 _ (.inl hneg) ?_ (fun y => ?_)
  ·rw [List.nodup_append]
   exact ⟨h.nd, by simp, fun a ha b hb => by rw [List.mem_singleton] at hb; rw [hb]; exact fun e => hxo (e ▸ ha)⟩
  ·rw [List.mem_append, List.mem_singleton]
   simp [hneg]
 ·by_cases hlt : z + stpC S.back g r x < iAt s.tl x
  ·rw [rRel_less hxD hbx hneg rfl hlt]
   rw [e0] at hneg hlt
   exact set1 _ (.inr hlt) h.nd (fun y => by simp [hneg])
  ·rw [rRel_same hxD hbx hneg rfl hlt]
   exact hsame (.inr (.inr ⟨by omega, by omega⟩))
theorem RI.all {S : SrS} {g : GraphD} {r : Nat} {z : Int} {D : List Nat} {s0 : Rst} {xs : List Nat} (hg : graphP g) (hl : g.roads.length = S.n1) (hnd : xs.Nodup) (hx : ∀ x ∈ xs, x < S.n1) (hz : 0 ≤ z) (h0 : ∀ x ∈ s0.op, 0 ≤ iAt s0.tl x) (h1 : s0.tl.length = S.n1) (h2 : s0.op.Nodup) :
  ∀ k, k ≤ xs.length → RI S g r z D s0 xs k (rS S g r z D s0 xs k)
 | 0, _ => ⟨h1, fun _ _ => rfl, fun _ _ => rfl, (fun _ h => nomatch h), (fun _ h => nomatch h), fun o => ⟨.inl, fun h => h.resolve_right (fun h => nomatch h.1)⟩, h2⟩
 | k + 1, hk => by
  rw [rS_succ S g r z D s0 xs hk]
  exact (RI.all hg hl hnd hx hz h0 h1 h2 k (by omega)).step hg hl hk hnd hx hz h0
/-- What holds as the search runs; D: the Roads that are done. -/
structure RJ (S : SrS) (g : GraphD) (st : Int) (D : List Nat) (s : Rst) : Prop where
 nd : D.Nodup
 dlt : ∀ x ∈ D, x < S.n1
 dj : DjT (IB S g st) (WB S g) (eO S.n1 s.tl) (· ∈ D)
 len : s.tl.length = S.n1
 und : s.op.Nodup
 opn : ∀ x, x ∈ s.op ↔ x < S.n1 ∧ x ∉ D ∧ 0 ≤ iAt s.tl x
 cb : ∀ x, x < S.n1 → -1 ≤ iAt s.tl x ∧ iAt s.tl x ≤ (D.length + 1) * 1000020 ∧ iAt s.tl x ≠ 0
theorem RJ.dl' {S : SrS} {g : GraphD} {st : Int} {D : List Nat} {s : Rst} (h : RJ S g st D s) : D.length ≤ S.n1 := nodup_le _ _ h.nd h.dlt
theorem RJ.ol {S : SrS} {g : GraphD} {st : Int} {D : List Nat} {s : Rst} (h : RJ S g st D s) : s.op.length ≤ S.n1 := nodup_le _ _ h.und (fun x hx => ((h.opn x).1 hx).1)
theorem RJ.next {S : SrS} {g : GraphD} {st : Int} {D : List Nat} {s : Rst} (h : RJ S g st D s) (hg : graphP g) (hl : g.roads.length = S.n1) {x : Nat} {op' : List Nat} (hp : (x :: op').Perm s.op) (hmin : ∀ y ∈ s.op, iAt s.tl x ≤ iAt s.tl y) {p : Nat} (hpp : plcB S.back g x = (p : Int)) :
  RJ S g st (x :: D) (rS S g x (iAt s.tl x) (x :: D) ⟨s.tl, op'⟩ (bgF g.roads S.n1 (!S.back) p) (bgF g.roads S.n1 (!S.back) p).length) := by
 obtain ⟨hxn, hxD, hxt⟩ := (h.opn x).1 (hp.mem_iff.1 (List.mem_cons.2 (.inl rfl)))
 have hiff : ∀ y, y ∈ bgF g.roads S.n1 (!S.back) p ↔ y < S.n1 ∧ entB S.back g y = (p : Int) := fun y => bgF_iff hl
 have hnd := bgF_nodup g.roads S.n1 (!S.back) p
 generalize bgF g.roads S.n1 (!S.back) p = xs at *
 have hsub : ∀ y, y ∈ op' → y ∈ s.op := fun y hy => hp.mem_iff.1 (List.mem_cons.2 (.inr hy))
 have hundp : (x :: op').Nodup := hp.nodup_iff.2 h.und
 have hxz : eO S.n1 s.tl x = some (iAt s.tl x) := eO_some.2 ⟨hxn, rfl, hxt⟩
 have FA := RI.all (S := S) (g := g) (r := x) (z := iAt s.tl x) (D := x :: D) (s0 := ⟨s.tl, op'⟩) (xs := xs) hg hl hnd (fun y hy => ((hiff y).1 hy).1) hxt (fun y hy => ((h.opn y).1 (hsub y hy)).2.2) h.len (List.nodup_cons.1 hundp).2 xs.length (Nat.le_refl _)
 generalize rS S g x (iAt s.tl x) (x :: D) ⟨s.tl, op'⟩ xs xs.length = t at *
 have tk : xs.take xs.length = xs := List.take_length
 have cbx := h.cb x hxn
 generalize hz : iAt s.tl x = z at *
 have hstp : ∀ y, y < S.n1 → 1 ≤ stpC S.back g x y ∧ stpC S.back g x y ≤ 1000020 := fun y hy => stp_bd hg hl hy
 have hchg : ∀ y, iAt t.tl y = iAt s.tl y ∨ (y ∈ xs ∧ y ∉ x :: D ∧ bnd S g x y = false ∧ iAt t.tl y = z + stpC S.back g x y ∧ (iAt s.tl y < 0 ∨ z + stpC S.back g x y < iAt s.tl y)) := fun y => by
  by_cases hm : y ∈ xs
  ·rcases FA.chg y (by rw [tk]; exact hm) with h1 | h1
   ·exact .inl h1
   ·exact .inr ⟨hm, h1⟩
  ·exact .inl (FA.own y (by rw [tk]; exact hm))
 have heO : ∀ y, iAt t.tl y = iAt s.tl y → eO S.n1 t.tl y = eO S.n1 s.tl y := fun y e => by unfold eO; rw [e]
 have hself : iAt t.tl x = iAt s.tl x := FA.old x (List.mem_cons.2 (.inl rfl))
 have hold : ∀ y, y ∈ D → iAt t.tl y = iAt s.tl y := fun y hy => FA.old y (List.mem_cons.2 (.inr hy))
 have hle : ∀ y cy, eO S.n1 s.tl y = some cy → ∃ q, eO S.n1 t.tl y = some q ∧ q ≤ cy := fun y cy hd => by
  obtain ⟨h1, h2, h3⟩ := eO_some.1 hd
  rcases hchg y with e | ⟨_, _, _, e1, e2⟩
  ·exact ⟨cy, by rw [heO y e]; exact hd, Int.le_refl _⟩
  ·have := hstp y h1
   refine ⟨_, eO_some.2 ⟨h1, e1, by omega⟩, ?_⟩
   rw [h2] at e2
   omega
 have hnew : ∀ y cy, eO S.n1 t.tl y = some cy → eO S.n1 s.tl y = some cy ∨ ∃ w, WB S g x y = some w ∧ cy = z + w := fun y cy hd => by
  rcases hchg y with e | ⟨hm, _, hb, e1, _⟩
  ·rw [← heO y e]; exact .inl hd
  ·obtain ⟨h1, h2, _⟩ := eO_some.1 hd
   refine .inr ⟨_, WB_some.2 ⟨⟨hxn, h1, ?_, hb⟩, rfl⟩, h2.symm.trans e1⟩
   rw [hpp]; exact ((hiff y).1 hm).2
 refine ⟨List.nodup_cons.2 ⟨hxD, h.nd⟩, fun y hy => ?_, ?_, FA.len, FA.nd, fun y => ?_, fun y hy => ?_⟩
 ·rcases List.mem_cons.1 hy with rfl | hy
  ·exact hxn
  ·exact h.dlt y hy
 ·have e : (fun y => y ∈ x :: D) = fun y => y ∈ D ∨ y = x := by
   funext y
   rw [List.mem_cons, or_comm]
  rw [e]
  refine DjT.next (c := z) (fun a y w hw => ?_) h.dj hxD hxz (fun y cy hy hd => ?_) (fun y hy => heO y (hold y hy)) (heO x hself) hle (fun y w hw => ?_) hnew
  ·obtain ⟨⟨_, h1, _⟩, rfl⟩ := WB_some.1 hw
   have := stp_bd (r := a) hg hl h1
   omega
  ·obtain ⟨h1, h2, h3⟩ := eO_some.1 hd
   rw [← h2]
   exact hmin y ((h.opn y).2 ⟨h1, hy, by rw [h2]; exact h3⟩)
  ·obtain ⟨⟨_, h1, h2, h3⟩, rfl⟩ := WB_some.1 hw
   have hm : y ∈ xs := (hiff y).2 ⟨h1, by rw [h2, hpp]⟩
   have hw0 := (hstp y h1).1
   by_cases hyD : y ∈ x :: D
   ·rcases List.mem_cons.1 hyD with rfl | hyD
    ·exact ⟨z, by rw [heO y hself]; exact hxz, by omega⟩
    ·obtain ⟨cy, hcy⟩ := h.dj.done y hyD
     exact ⟨cy, by rw [heO y (hold y hyD)]; exact hcy, by have := h.dj.low y x cy z hyD hxD hcy hxz; omega⟩
   ·obtain ⟨h4, h5⟩ := FA.stp y (by rw [tk]; exact hm) hyD h3
    exact ⟨_, eO_some.2 ⟨h1, rfl, h4⟩, h5⟩
 ·rw [FA.op, tk]
  have hopx : y ∈ op' ↔ y ∈ s.op ∧ y ≠ x := by
   rw [← hp.mem_iff, List.mem_cons]
   constructor
   ·intro hy
    exact ⟨.inr hy, fun e => (List.nodup_cons.1 hundp).1 (e ▸ hy)⟩
   ·rintro ⟨h1, h2⟩
    exact h1.resolve_left h2
  rw [hopx, h.opn, List.mem_cons]
  constructor
  ·rintro (⟨⟨h1, h2, h3⟩, h4⟩ | ⟨h1, h2, h3⟩)
   ·refine ⟨h1, fun hh => hh.elim h4 h2, ?_⟩
    rcases hchg y with e | ⟨_, _, _, e1, _⟩
    ·rw [e]; exact h3
    ·have := hstp y h1
     rw [e1]; omega
   ·refine ⟨((hiff y).1 h1).1, fun hh => ?_, h3⟩
    have e := FA.old y (List.mem_cons.2 hh)
    rw [e] at h3
    simp only at h2 h3
    omega
  ·rintro ⟨h1, h2, h3⟩
   rcases hchg y with e | ⟨hm, _, _, e1, e2⟩
   ·exact .inl ⟨⟨h1, fun hh => h2 (.inr hh), by rw [← e]; exact h3⟩, fun hh => h2 (.inl hh)⟩
   ·by_cases hn : iAt s.tl y < 0
    ·exact .inr ⟨hm, hn, h3⟩
    ·exact .inl ⟨⟨h1, fun hh => h2 (.inr hh), by omega⟩, fun hh => h2 (.inl hh)⟩
 ·simp only [List.length_cons]
  have := h.cb y hy
  rcases hchg y with e | ⟨_, _, _, e1, _⟩
  ·rw [e]; omega
  ·have := hstp y hy
   rw [e1]
   omega
theorem RJ.least {S : SrS} {g : GraphD} {st : Int} {D : List Nat} {s : Rst} (h : RJ S g st D s) (h0 : s.op = []) : LeastT (IB S g st) (WB S g) (eO S.n1 s.tl) := by
 refine h.dj.least fun x c hd => ?_
 obtain ⟨h1, h2, h3⟩ := eO_some.1 hd
 by_cases hm : x ∈ D
 ·exact hm
 ·have := (h.opn x).2 ⟨h1, hm, by rw [h2]; exact h3⟩
  rw [h0] at this
  exact absurd this (by simp)
theorem RJ.all {S : SrS} {g : GraphD} {st : Int} {D : List Nat} {s : Rst} (h : RJ S g st D s) (h0 : s.op = []) {x : Nat} : x ∈ D ↔ x < S.n1 ∧ 0 ≤ iAt s.tl x := by
 constructor
 ·intro hx
  obtain ⟨c, hc⟩ := h.dj.done x hx
  obtain ⟨h1, h2, h3⟩ := eO_some.1 hc
  exact ⟨h1, by rw [h2]; exact h3⟩
 ·rintro ⟨h1, h2⟩
  by_cases hm : x ∈ D
  ·exact hm
  ·have := (h.opn x).2 ⟨h1, hm, h2⟩
   rw [h0] at this
   exact absurd this (by simp)
/-- At the start: the first k of the Roads that begin at the place are open. -/
def rB (N : Nat) (g : GraphD) (xs : List Nat) (k : Nat) : Rst := ⟨(xs.take k).foldl (fun l x => l.set x (rdAt g x).time) (List.replicate N (-1)), xs.take k⟩
theorem rB_succ {N : Nat} {g : GraphD} {xs : List Nat} {k : Nat} (h : k < xs.length) : rB N g xs (k + 1) = ⟨(rB N g xs k).tl.set xs[k] (rdAt g xs[k]).time, (rB N g xs k).op ++ [xs[k]]⟩ := by
 unfold rB
 rw [List.take_succ_eq_append_getElem h, List.foldl_append]
 rfl
theorem rB_len (N : Nat) (g : GraphD) (xs : List Nat) : ∀ k, k ≤ xs.length → (rB N g xs k).tl.length = N
 | 0, _ => by simp [rB]
 | k + 1, h => by rw [rB_succ h, List.length_set, rB_len N g xs k (by omega)]
theorem rB_at {N : Nat} {g : GraphD} {xs : List Nat} (hx : ∀ x ∈ xs, x < N) {y : Nat} (hy : y < N) : ∀ k, k ≤ xs.length → iAt (rB N g xs k).tl y = if y ∈ xs.take k then (rdAt g y).time else -1
 | 0, _ => by simp [rB, iAt, hy]
 | k + 1, h => by
  have hl := rB_len N g xs k (by omega)
  rw [rB_succ h, List.take_succ_eq_append_getElem h]
  by_cases e : xs[k] = y
  ·rw [e, if_pos (by simp), iAt_set_self (by rw [hl]; exact hy)]
  ·rw [iAt_set_ne e, rB_at hx hy k (by omega)]
   have : (y ∈ xs.take k ++ [xs[k]]) ↔ y ∈ xs.take k := by
    rw [List.mem_append, List.mem_singleton]
    exact ⟨fun h => h.resolve_right (fun e2 => e e2.symm), .inl⟩
   simp only [this]
theorem RJ.start {S : SrS} {g : GraphD} {p : Nat} (hg : graphP g) (hl : g.roads.length = S.n1) : RJ S g (p : Int) [] (rB S.n1 g (bgF g.roads S.n1 (!S.back) p) (bgF g.roads S.n1 (!S.back) p).length) := by
 have hiff : ∀ y, y ∈ bgF g.roads S.n1 (!S.back) p ↔ y < S.n1 ∧ entB S.back g y = (p : Int) := fun y => bgF_iff hl
 have hnd := bgF_nodup g.roads S.n1 (!S.back) p
 generalize bgF g.roads S.n1 (!S.back) p = xs at *
 have tk : xs.take xs.length = xs := List.take_length
 have hat : ∀ y, y < S.n1 → iAt (rB S.n1 g xs xs.length).tl y = if y ∈ xs then (rdAt g y).time else -1 := fun y hy => by
  rw [rB_at (fun x hx => ((hiff x).1 hx).1) hy xs.length (Nat.le_refl _), tk]
 have hti : ∀ y, y < S.n1 → 1 ≤ (rdAt g y).time ∧ (rdAt g y).time ≤ 1000000 := fun y hy => rd_time hg hl hy
 have hop : (rB S.n1 g xs xs.length).op = xs := tk
 have hsome : ∀ y c, eO S.n1 (rB S.n1 g xs xs.length).tl y = some c ↔ (y ∈ xs ∧ c = (rdAt g y).time) := fun y c => by
  rw [eO_some]
  constructor
  ·rintro ⟨h1, h2, h3⟩
   rw [hat y h1] at h2
   by_cases e : y ∈ xs
   ·rw [if_pos e] at h2; exact ⟨e, h2.symm⟩
   ·rw [if_neg e] at h2; omega
  ·rintro ⟨h1, rfl⟩
   have hn := ((hiff y).1 h1).1
   have := hti y hn
   exact ⟨hn, by rw [hat y hn, if_pos h1], by omega⟩
 have hIB : ∀ y t, IB S g (p : Int) y = some t ↔ (y ∈ xs ∧ t = (rdAt g y).time) := fun y t => by
  unfold IB
  rw [hiff]
  split
  ·rename_i hc
   simp [hc, eq_comm]
  ·rename_i hc
   simp [hc]
 refine ⟨List.nodup_nil, (fun _ h => nomatch h), ?_, rB_len _ _ _ _ (Nat.le_refl _), by rw [hop]; exact hnd, fun y => ?_, fun y hy => ?_⟩
 ·have e : (fun x => x ∈ ([] : List Nat)) = fun _ => False := by
   funext x
   simp
  rw [e]
  exact DjT.start (fun y t h => (hsome y t).2 ((hIB y t).1 h)) (fun y c h => (hIB y c).2 ((hsome y c).1 h))
 ·rw [hop, hiff]
  constructor
  ·rintro ⟨h1, h2⟩
   have := hti y h1
   exact ⟨h1, by simp, by rw [hat y h1, if_pos ((hiff y).2 ⟨h1, h2⟩)]; omega⟩
  ·rintro ⟨h1, _, h3⟩
   rw [hat y h1] at h3
   by_cases e : y ∈ xs
   ·exact (hiff y).1 e
   ·rw [if_neg e] at h3; omega
 ·rw [hat y hy]
  have := hti y hy
  simp only [List.length_nil]
  split <;> omega

/-- What is told of a place: the least time by which one comes there. -/
noncomputable def rcV (n : Nat) (g : GraphD) (d : Nat → Option Cst) (st : Int) (p : Nat) : Int :=
 if (p : Int) = st then 0 else
 match miF d (bgF g.roads n false p) with
 | none => -1
 | some b => b.2.t
theorem snoc_ind {α : Type} {P : List α → Prop} (h0 : P []) (h1 : ∀ l a, P l → P (l ++ [a])) (l : List α) : P l := by
 have h : ∀ r : List α, P r.reverse := fun r => by
  induction r with
  | nil => exact h0
  | cons a r ih => rw [List.reverse_cons]; exact h1 _ _ ih
 have := h l.reverse
 rwa [List.reverse_reverse] at this
theorem miF_none_all {f : Nat → Option Cst} : ∀ (l : List Nat), miF f l = none → ∀ x ∈ l, f x = none := by
 refine snoc_ind ?_ ?_
 ·intro _ x hx; exact nomatch hx
 ·intro l a ih h x hx
  rw [miF_snoc] at h
  cases hf : f a with
  | some c =>
   exfalso
   cases hm : miF f l with
   | none => rw [hm, miS_first hf] at h; exact nomatch h
   | some b =>
    rw [hm] at h
    cases hl : cLtB c b.2 with
    | true => rw [miS_less hf hl] at h; exact nomatch h
    | false => rw [miS_not hf hl] at h; exact nomatch h
  | none =>
   rw [miS_none hf] at h
   rcases List.mem_append.1 hx with hx | hx
   ·exact ih h x hx
   ·rw [List.mem_singleton.1 hx]; exact hf
theorem miF_min {f : Nat → Option Cst} : ∀ (l : List Nat) (b : Nat × Cst), miF f l = some b → ∀ x ∈ l, ∀ c, f x = some c → b.2.le c := by
 refine snoc_ind ?_ ?_
 ·intro b h x hx; exact nomatch hx
 ·intro l a ih b h x hx c hc
  rw [miF_snoc] at h
  have old : x ∈ l → ∀ b', miF f l = some b' → b'.2.le c := fun hxl b' hb' => ih b' hb' x hxl c hc
  cases hf : f a with
  | none =>
   rw [miS_none hf] at h
   rcases List.mem_append.1 hx with hx | hx
   ·exact old hx b h
   ·rw [List.mem_singleton.1 hx, hf] at hc; exact nomatch hc
  | some ca =>
   cases hm : miF f l with
   | none =>
    rw [hm, miS_first hf] at h
    injection h with h
    subst h
    rcases List.mem_append.1 hx with hx | hx
    ·rw [miF_none_all l hm x hx] at hc; exact nomatch hc
    ·rw [List.mem_singleton.1 hx, hf] at hc
     injection hc with hc
     rw [hc]; exact Cst.le_refl _
   | some b' =>
    rw [hm] at h
    cases hl : cLtB ca b'.2 with
    | true =>
     rw [miS_less hf hl] at h
     injection h with h
     subst h
     rcases List.mem_append.1 hx with hx | hx
     ·exact Cst.le_trans (Cst.lt_le (cLtB_iff.1 hl)) (old hx b' hm)
     ·rw [List.mem_singleton.1 hx, hf] at hc
      injection hc with hc
      rw [hc]; exact Cst.le_refl _
    | false =>
     rw [miS_not hf hl] at h
     injection h with h
     subst h
     rcases List.mem_append.1 hx with hx | hx
     ·exact old hx b' hm
     ·rw [List.mem_singleton.1 hx, hf] at hc
      injection hc with hc
      rw [← hc]; exact cLtB_no.1 hl
/-- What the model has put down for the places: D's Roads have come there. -/
structure RO (n0 : Nat) (g : GraphD) (p : Nat) (D : List Nat) (tl ol : List Int) : Prop where
 len : ol.length = n0
 st : iAt ol p = 0
 no : ∀ q, q < n0 → q ≠ p → (∀ x ∈ D, (rdAt g x).to ≠ (q : Int)) → iAt ol q = -1
 yes : ∀ q, q < n0 → q ≠ p → ∀ x ∈ D, (rdAt g x).to = (q : Int) → 0 ≤ iAt ol q ∧ iAt ol q ≤ iAt tl x ∧ ∃ y ∈ D, (rdAt g y).to = (q : Int) ∧ iAt ol q = iAt tl y
theorem RO.told {n0 : Nat} {S : SrS} {g : GraphD} {p : Nat} {D : List Nat} {s : Rst} {ol : List Int} {d : Nat → Option Cst} (h : RO n0 g p D s.tl ol) (hJ : RJ S g (p : Int) D s) (h0 : s.op = []) (hg : graphP g) (hl : g.roads.length = S.n1) (hd : Least (IB S g (p : Int)) (WB S g) d) (hc : ∀ x c, d x = some c → 0 ≤ c.t) {q : Nat} (hq : q < n0) :
  iAt ol q = rcV S.n1 g d (p : Int) q := by
 have hT : eO S.n1 s.tl = fun x => (d x).map Cst.t := by
  refine leastT_unique (fun r x w hw => ?_) (hJ.least h0) (fun x c hx => (eO_some.1 hx).2.2) hd.times (fun x c hx => ?_)
  ·obtain ⟨⟨_, h1, _⟩, rfl⟩ := WB_some.1 hw
   exact (stp_bd hg hl h1).1
  ·cases e : d x with
   | none => simp [e] at hx
   | some cx => simp [e] at hx; rw [← hx]; exact hc x cx e
 have hat : ∀ x, (d x).map Cst.t = eO S.n1 s.tl x := fun x => (congrFun hT x).symm
 unfold rcV
 by_cases e : q = p
 ·subst e
  rw [if_pos rfl, h.st]
 rw [if_neg (by omega)]
 have hiff : ∀ y, y ∈ bgF g.roads S.n1 false q ↔ y < S.n1 ∧ (rdAt g y).to = (q : Int) := fun y => bgF_iff (back := true) hl
 cases hm : miF d (bgF g.roads S.n1 false q) with
 | none =>
  refine h.no q hq e (fun x hx hto => ?_)
  obtain ⟨c, hcx⟩ := hJ.dj.done x hx
  have hn := miF_none_all _ hm x ((hiff x).2 ⟨(eO_some.1 hcx).1, hto⟩)
  have := hat x
  rw [hn, hcx] at this
  exact nomatch this
 | some b =>
  obtain ⟨hbm, hbd⟩ := miF_mem (x := b.1) (c := b.2) hm
  obtain ⟨hbn, hbt⟩ := (hiff b.1).1 hbm
  have hbe : eO S.n1 s.tl b.1 = some b.2.t := by rw [← hat, hbd]; rfl
  obtain ⟨_, k2, k3⟩ := eO_some.1 hbe
  have hbD : b.1 ∈ D := (hJ.all h0).2 ⟨hbn, by rw [k2]; exact k3⟩
  obtain ⟨h1, h2, y, hy, hyt, h3⟩ := h.yes q hq e b.1 hbD hbt
  obtain ⟨cy, hcy⟩ := hJ.dj.done y hy
  obtain ⟨y1, y2, _⟩ := eO_some.1 hcy
  have hdy : ∃ c', d y = some c' ∧ c'.t = cy := by
   have := hat y
   rw [hcy] at this
   cases e2 : d y with
   | none => rw [e2] at this; exact nomatch this
   | some c' => rw [e2] at this; injection this with this; exact ⟨c', rfl, this⟩
  obtain ⟨c', e1, e2⟩ := hdy
  have hmin := miF_min _ b hm y ((hiff y).2 ⟨y1, hyt⟩) c' e1
  show iAt ol q = b.2.t
  unfold Cst.le at hmin
  rw [k2] at h2
  rw [h3, y2] at h2 ⊢
  omega
/-- One more Road is done. -/
theorem RO.next {n0 : Nat} {g : GraphD} {p x q : Nat} {D : List Nat} {tl tl' ol : List Int} {t : Int} (h : RO n0 g p D tl ol) (hx : (rdAt g x).to = (q : Int)) (hq : q < n0) (ht : iAt tl x = t) (hp : 0 < t) (hold : ∀ y ∈ x :: D, iAt tl' y = iAt tl y) :
  RO n0 g p (x :: D) tl' (if iAt ol q < 0 ∨ t < iAt ol q then ol.set q t else ol) := by
 have hql : q < ol.length := by rw [h.len]; exact hq
 have hself := hold x (List.mem_cons.2 (.inl rfl))
 have hdld : ∀ y ∈ D, iAt tl' y = iAt tl y := fun y hy => hold y (List.mem_cons.2 (.inr hy))
 by_cases hc : iAt ol q < 0 ∨ t < iAt ol q
 ·rw [if_pos hc]
  have hqp : q ≠ p := fun e => by have := h.st; rw [e] at hc; omega
  refine ⟨by rw [List.length_set]; exact h.len, by rw [iAt_set_ne hqp]; exact h.st, fun r hr hrp hno => ?_, fun r hr hrp y hy hyt => ?_⟩
  ·have hrq : q ≠ r := fun e => hno x (List.mem_cons.2 (.inl rfl)) (by rw [hx, e])
   rw [iAt_set_ne hrq]
   exact h.no r hr hrp (fun y hy => hno y (List.mem_cons.2 (.inr hy)))
  ·by_cases e : q = r
   ·subst e
    rw [iAt_set_self hql]
    refine ⟨by omega, ?_, x, List.mem_cons.2 (.inl rfl), hx, by rw [hself, ht]⟩
    rcases List.mem_cons.1 hy with rfl | hy
    ·rw [hself, ht]; exact Int.le_refl _
    ·have h1 := h.yes q hr hrp y hy hyt
     rw [hdld y hy]
     omega
   ·rw [iAt_set_ne e]
    have hyD : y ∈ D := by
     rcases List.mem_cons.1 hy with rfl | hy
     ·rw [hx] at hyt; omega
     ·exact hy
    obtain ⟨h1, h2, z, hz, h3, h4⟩ := h.yes r hr hrp y hyD hyt
    exact ⟨h1, by rw [hdld y hyD]; exact h2, z, List.mem_cons.2 (.inr hz), h3, by rw [hdld z hz]; exact h4⟩
 ·rw [if_neg hc]
  refine ⟨h.len, h.st, fun r hr hrp hno => h.no r hr hrp (fun y hy => hno y (List.mem_cons.2 (.inr hy))), fun r hr hrp y hy hyt => ?_⟩
  have key : ∀ y ∈ D, (rdAt g y).to = (r : Int) → 0 ≤ iAt ol r ∧ iAt ol r ≤ iAt tl' y ∧ ∃ z ∈ x :: D, (rdAt g z).to = (r : Int) ∧ iAt ol r = iAt tl' z := fun y hyD hyt => by
   obtain ⟨h1, h2, z, hz, h3, h4⟩ := h.yes r hr hrp y hyD hyt
   exact ⟨h1, by rw [hdld y hyD]; exact h2, z, List.mem_cons.2 (.inr hz), h3, by rw [hdld z hz]; exact h4⟩
  rcases List.mem_cons.1 hy with rfl | hyD
  ·have hrq : r = q := by rw [hx] at hyt; omega
   subst hrq
   by_cases hex : ∃ z ∈ D, (rdAt g z).to = (r : Int)
   ·obtain ⟨z, hz, hzt⟩ := hex
    obtain ⟨h1, _, h3⟩ := key z hz hzt
    exact ⟨h1, by rw [hself, ht]; omega, h3⟩
   ·have := h.no r hr hrp (fun z hz hzt => hex ⟨z, hz, hzt⟩)
    omega
  ·exact key y hyD hyt
theorem RO.first {n0 : Nat} {g : GraphD} {p : Nat} {tl : List Int} (hp : p < n0) : RO n0 g p [] tl ((List.replicate n0 (-1)).set p 0) := by
 refine ⟨by simp, iAt_set_self (by simpa using hp), fun q hq hqp _ => ?_, fun q _ _ x hx => nomatch hx⟩
 rw [iAt_set_ne (fun e => hqp e.symm)]
 simp [iAt, hq]
/-- What Reach answers. -/
noncomputable def rcL (n0 n : Nat) (g : GraphD) (d : Nat → Option Cst) (st : Int) : List Int := (List.range n0).map (rcV n g d st)
noncomputable def rcQ (g : GraphD) (x : Int) : List Int := if bP (graphP g) = true ∧ inN g.places.length x = true then rcL g.places.length g.roads.length g (lstD g.roads.length false g x) x else []
theorem rcQ_no {g : GraphD} {x : Int} (h : ¬ (graphP g ∧ inN g.places.length x = true)) : rcQ g x = [] := by
 unfold rcQ
 rw [if_neg (fun hh => h ⟨bP_out hh.1, hh.2⟩)]
theorem rcQ_yes {g : GraphD} {x : Int} (h : graphP g) (hx : inN g.places.length x = true) : rcQ g x = rcL g.places.length g.roads.length g (lstD g.roads.length false g x) x := by
 unfold rcQ
 rw [if_pos ⟨bP_true h, hx⟩]
theorem rcL_len (n0 n : Nat) (g : GraphD) (d : Nat → Option Cst) (st : Int) : (rcL n0 n g d st).length = n0 := by simp [rcL]
theorem rcL_at {n0 n : Nat} {g : GraphD} {d : Nat → Option Cst} {st : Int} {i : Nat} (h : i < (rcL n0 n g d st).length) : (rcL n0 n g d st)[i] = rcV n g d st i := by simp [rcL]
theorem RO.list {n0 : Nat} {S : SrS} {g : GraphD} {p : Nat} {D : List Nat} {s : Rst} {ol : List Int} {d : Nat → Option Cst} (h : RO n0 g p D s.tl ol) (hJ : RJ S g (p : Int) D s) (h0 : s.op = []) (hg : graphP g) (hl : g.roads.length = S.n1) (hd : Least (IB S g (p : Int)) (WB S g) d) (hc : ∀ x c, d x = some c → 0 ≤ c.t) : ol = rcL n0 S.n1 g d (p : Int) := by
 apply List.ext_getElem
 ·rw [h.len, rcL_len]
 ·intro i h1 h2
  rw [rcL_at, ← h.told hJ h0 hg hl hd hc (by rw [h.len] at h1; exact h1), iAt_eq h1]
end Go.Proofs.YtdlgehnoiaoneaaGreatDoor
