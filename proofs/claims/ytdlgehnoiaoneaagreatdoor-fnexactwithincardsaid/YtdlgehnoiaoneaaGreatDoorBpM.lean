/-
  The best path, Road by Road, out of the least costs: mathematics.
-/
import Derived.Test.YtdlgehnoiaoneaaGreatDoorGP
namespace Go.Proofs.YtdlgehnoiaoneaaGreatDoor

/-- The first of the least ones: what is chosen so far, and one more. -/
def miS (f : Nat → Option Cst) (a : Option (Nat × Cst)) (x : Nat) : Option (Nat × Cst) :=
 match f x with
 | none => a
 | some c => match a with
  | none => some (x, c)
  | some b => if cLtB c b.2 = true then some (x, c) else some b
def miF (f : Nat → Option Cst) (l : List Nat) : Option (Nat × Cst) := l.foldl (miS f) none
theorem miF_snoc (f : Nat → Option Cst) (l : List Nat) (x : Nat) : miF f (l ++ [x]) = miS f (miF f l) x := by
 unfold miF
 rw [List.foldl_append]
 rfl
theorem miS_none {f : Nat → Option Cst} {a : Option (Nat × Cst)} {x : Nat} (h : f x = none) : miS f a x = a := by
 unfold miS
 rw [h]
theorem miS_first {f : Nat → Option Cst} {x : Nat} {c : Cst} (h : f x = some c) : miS f none x = some (x, c) := by
 unfold miS
 rw [h]
theorem miS_less {f : Nat → Option Cst} {b : Nat × Cst} {x : Nat} {c : Cst} (h : f x = some c) (hl : cLtB c b.2 = true) : miS f (some b) x = some (x, c) := by
 unfold miS
 rw [h]
 simp [hl]
theorem miS_not {f : Nat → Option Cst} {b : Nat × Cst} {x : Nat} {c : Cst} (h : f x = some c) (hl : cLtB c b.2 = false) : miS f (some b) x = some b := by
 unfold miS
 rw [h]
 simp [hl]
theorem miF_from {f : Nat → Option Cst} : ∀ (l : List Nat) (a : Option (Nat × Cst)) (x : Nat) (c : Cst), l.foldl (miS f) a = some (x, c) → a = some (x, c) ∨ (x ∈ l ∧ f x = some c)
 | [], a, x, c, h => .inl h
 | y :: l, a, x, c, h => by
  rw [List.foldl_cons] at h
  rcases miF_from l _ x c h with h1 | ⟨h1, h2⟩
  ·cases hf : f y with
   | none => rw [miS_none hf] at h1; exact .inl h1
   | some cy =>
    cases a with
    | none =>
     rw [miS_first hf] at h1
     injection h1 with h1
     injection h1 with e1 e2
     subst e1 e2
     exact .inr ⟨List.mem_cons.2 (.inl rfl), hf⟩
    | some b =>
     cases hl : cLtB cy b.2 with
     | false => rw [miS_not hf hl] at h1; exact .inl h1
     | true =>
      rw [miS_less hf hl] at h1
      injection h1 with h1
      injection h1 with e1 e2
      subst e1 e2
      exact .inr ⟨List.mem_cons.2 (.inl rfl), hf⟩
  ·exact .inr ⟨List.mem_cons.2 (.inr h1), h2⟩
theorem miF_mem {f : Nat → Option Cst} {l : List Nat} {x : Nat} {c : Cst} (h : miF f l = some (x, c)) : x ∈ l ∧ f x = some c := by
 rcases miF_from l none x c h with h1 | h1
 ·exact nomatch h1
 ·exact h1
/-- May y stand behind x on a best path? -/
noncomputable def isN (n : Nat) (g : GraphD) (d : Nat → Option Cst) (x y : Nat) : Bool :=
 match d y with
 | none => false
 | some c => !(bnd (mkS n true) g y x) && decide (d x = some (c.plus (stpC true g y x)))
theorem isN_iff {n : Nat} {g : GraphD} {d : Nat → Option Cst} {x y : Nat} : isN n g d x y = true ↔ ∃ c, d y = some c ∧ bnd (mkS n true) g y x = false ∧ d x = some (c.plus (stpC true g y x)) := by
 unfold isN
 cases h : d y with
 | none => simp
 | some c => simp
/-- The Road behind x, and all from x on. -/
noncomputable def nxR (n : Nat) (g : GraphD) (d : Nat → Option Cst) (x : Nat) : Option Nat := (bgF g.roads n true (rdAt g x).to.toNat).find? (isN n g d x)
noncomputable def chR (n : Nat) (g : GraphD) (d : Nat → Option Cst) : Nat → Nat → List Nat
 | 0, _ => []
 | k + 1, x => x :: (match nxR n g d x with | none => [] | some y => chR n g d k y)
theorem chR_end {n : Nat} {g : GraphD} {d : Nat → Option Cst} {k x : Nat} (h : nxR n g d x = none) : chR n g d (k + 1) x = [x] := by
 rw [chR, h]
theorem chR_on {n : Nat} {g : GraphD} {d : Nat → Option Cst} {k x y : Nat} (h : nxR n g d x = some y) : chR n g d (k + 1) x = x :: chR n g d k y := by
 rw [chR, h]
/-- The least costs to a place, with what is known of them. -/
structure LC (n : Nat) (g : GraphD) (t : Int) (d : Nat → Option Cst) : Prop where
 hg : graphP g
 hl : g.roads.length = n
 ls : Least (IB (mkS n true) g t) (WB (mkS n true) g) d
 bd : ∀ x c, d x = some c → x < n ∧ 1 ≤ c.c ∧ c.c ≤ n + 1 ∧ 0 ≤ c.t ∧ c.t ≤ c.c * 1000020
theorem LC.one {n : Nat} {g : GraphD} {t : Int} {d : Nat → Option Cst} (h : LC n g t d) {x : Nat} {c : Cst} (hx : d x = some c) (hc : c.c = 1) : nxR n g d x = none := by
 unfold nxR
 rw [List.find?_eq_none]
 intro y _ hN
 obtain ⟨cy, h1, _, h3⟩ := isN_iff.1 hN
 rw [hx] at h3
 injection h3 with h3
 have := (h.bd y cy h1).2.1
 rw [h3] at hc
 have hc' : cy.c + 1 = 1 := hc
 omega
theorem LC.more {n : Nat} {g : GraphD} {t : Int} {d : Nat → Option Cst} (h : LC n g t d) {x : Nat} {c : Cst} (hx : d x = some c) (hc : 2 ≤ c.c) :
  ∃ y cy, nxR n g d x = some y ∧ d y = some cy ∧ bnd (mkS n true) g y x = false ∧ c = cy.plus (stpC true g y x) ∧ y ∈ bgF g.roads n true (rdAt g x).to.toNat := by
 rcases h.ls.from' x c hx with ⟨_, h1⟩ | ⟨r, cr, w, h1, h2, h3⟩
 ·omega
 ·obtain ⟨⟨hr, hxn, he, hb⟩, rfl⟩ := WB_some.1 h2
  have hto : (rdAt g x).to = (rdAt g r).fr := he
  have hrg : r < g.roads.length := by rw [h.hl]; exact hr
  have hbd := (roadB_out (h.hg.2.2.1 r hrg)).1
  rw [← rdAt_eq hrg] at hbd
  have hm : r ∈ bgF g.roads n true (rdAt g x).to.toNat := (bgF_iff (back := false) h.hl).2 ⟨hr, by
   show (rdAt g r).fr = _
   rw [hto]
   omega⟩
  have hN : isN n g d x r = true := isN_iff.2 ⟨cr, h1, hb, by rw [hx, h3]; rfl⟩
  cases hf : nxR n g d x with
  | none =>
   unfold nxR at hf
   rw [List.find?_eq_none] at hf
   exact absurd hN (hf r hm)
  | some y =>
   unfold nxR at hf
   have hy := List.find?_some hf
   obtain ⟨cy, k1, k2, k3⟩ := isN_iff.1 hy
   rw [hx] at k3
   injection k3 with k3
   exact ⟨y, cy, rfl, k1, k2, k3, List.mem_of_find?_eq_some hf⟩
theorem LC.len {n : Nat} {g : GraphD} {t : Int} {d : Nat → Option Cst} (h : LC n g t d) : ∀ (k x : Nat) (c : Cst), d x = some c → c.c = k → (chR n g d k x).length = k
 | 0, x, c, hx, hk => by have := (h.bd x c hx).2.1; omega
 | 1, x, c, hx, hk => by rw [chR_end (h.one hx hk)]; rfl
 | k + 2, x, c, hx, hk => by
  obtain ⟨y, cy, h1, h2, _, h3, _⟩ := h.more hx (by omega)
  have e : c.c = cy.c + 1 := by rw [h3]; rfl
  rw [chR_on h1, List.length_cons, h.len (k + 1) y cy h2 (by omega)]
theorem LC.lt {n : Nat} {g : GraphD} {t : Int} {d : Nat → Option Cst} (h : LC n g t d) : ∀ (k x : Nat) (c : Cst), d x = some c → c.c = k → ∀ z ∈ chR n g d k x, z < n
 | 0, x, c, hx, hk => by have := (h.bd x c hx).2.1; omega
 | 1, x, c, hx, hk => by
  rw [chR_end (h.one hx hk)]
  intro z hz
  rw [List.mem_singleton.1 hz]
  exact (h.bd x c hx).1
 | k + 2, x, c, hx, hk => by
  obtain ⟨y, cy, h1, h2, _, h3, _⟩ := h.more hx (by omega)
  rw [chR_on h1]
  intro z hz
  rcases List.mem_cons.1 hz with rfl | hz
  ·exact (h.bd _ c hx).1
  ·have e : c.c = cy.c + 1 := by rw [h3]; rfl
   exact h.lt (k + 1) y cy h2 (by omega) z hz
theorem SJ.lc {S : SrS} {g : GraphD} {st : Int} {D : List Nat} {s : Sig} {Ls : List (List Nat)} (h : SJ S g st D s Ls) (h0 : s.pd = []) (hb : S.back = true) (hg : graphP g) (hl : g.roads.length = S.n1) : LC S.n1 g st (dO S.n1 s.bl) := by
 have hI : IB S g st = IB (mkS S.n1 true) g st := by rw [← hb]; rfl
 have hW : WB S g = WB (mkS S.n1 true) g := by rw [← hb]; rfl
 refine ⟨hg, hl, by rw [← hI, ← hW]; exact (h.least h0).1, fun x c hx => ?_⟩
 have h1 := h.cb x c hx
 have h2 := h.dl
 exact ⟨(dO_some.1 hx).1, by omega, by omega, by omega, by omega⟩
theorem SJ.lst {S : SrS} {g : GraphD} {st : Int} {D : List Nat} {s : Sig} {Ls : List (List Nat)} (h : SJ S g st D s Ls) (h0 : s.pd = []) : lstD S.n1 S.back g st = dO S.n1 s.bl := lstD_eq (h.least h0).1 (h.least h0).2
theorem SJ.cat {S : SrS} {g : GraphD} {st : Int} {D : List Nat} {s : Sig} {Ls : List (List Nat)} (h : SJ S g st D s Ls) {x : Nat} (hx : x < S.n1) : cAt s.bl x = (dO S.n1 s.bl x).getD ⟨noT, 0⟩ := by
 by_cases hn : (cAt s.bl x).t = noT
 ·have e : dO S.n1 s.bl x = none := by unfold dO; rw [if_neg (fun hh => hh.2 hn)]
  rw [e]
  exact Cst.ext' hn (h.non x hx hn)
 ·rw [dO_some.2 ⟨hx, rfl, hn⟩]
  rfl
theorem MJ.lc {n : Nat} {g : GraphD} {st : Int} {D : List Nat} {s : Mst} (h : MJ (mkS n true) g st D s) (h0 : s.op = []) (hg : graphP g) (hl : g.roads.length = n) : LC n g st (mO n s.dl) := by
 refine ⟨hg, hl, (h.least h0).1, fun x c hx => ?_⟩
 have h1 := h.cb x c hx
 have h2 : D.length ≤ n := h.dl'
 exact ⟨(mO_some.1 hx).1, by omega, by omega, by omega, by omega⟩
theorem MJ.lst {n : Nat} {g : GraphD} {st : Int} {D : List Nat} {s : Mst} (h : MJ (mkS n true) g st D s) (h0 : s.op = []) : lstD n true g st = mO n s.dl := lstD_eq (S := mkS n true) (h.least h0).1 (h.least h0).2

/-- The legs of a search: for each place what the best path there costs, and its last Road. -/
def lgS (bl : List Cst) (back : Bool) (g : GraphD) (p : Nat) (a : Cst × Int) (k : Nat) : Cst × Int := if plcB back g k = (p : Int) ∧ cLtB (cAt bl k) a.1 = true then (cAt bl k, (k : Int)) else a
def lg0 (st : Int) (p : Nat) : Cst × Int := (if (p : Int) = st then ⟨0, 0⟩ else ⟨noT, 0⟩, -1)
def lgF (bl : List Cst) (back : Bool) (g : GraphD) (st : Int) (k p : Nat) : Cst × Int := (List.range k).foldl (lgS bl back g p) (lg0 st p)
theorem lgF_succ (bl : List Cst) (back : Bool) (g : GraphD) (st : Int) (k p : Nat) : lgF bl back g st (k + 1) p = lgS bl back g p (lgF bl back g st k p) k := by
 unfold lgF
 rw [List.range_succ, List.foldl_append]
 rfl
theorem plc_end {back : Bool} {g : GraphD} {k : Nat} (h : k < g.roads.length) : plcB back g k = endR back g.roads[k] := by
 unfold plcB endR
 rw [rdAt_eq h]
/-- .. as chosen among the Roads of the place. -/
def lgO (a : Option (Nat × Cst)) : Cst × Int :=
 match a with
 | none => (⟨noT, 0⟩, -1)
 | some b => (b.2, (b.1 : Int))
theorem lgF_other {bl : List Cst} {back : Bool} {g : GraphD} {st : Int} {p : Nat} {d : Nat → Option Cst} (hp : (p : Int) ≠ st) (hc : ∀ x, x < g.roads.length → cAt bl x = (d x).getD ⟨noT, 0⟩) (hd : ∀ x c, d x = some c → c.t < noT) :
  ∀ k, k ≤ g.roads.length → lgF bl back g st k p = lgO (miF d (bgF g.roads k back p))
 | 0, _ => by
  show lg0 st p = lgO (miF d [])
  unfold lg0 lgO miF
  rw [if_neg hp]
  rfl
 | k + 1, hk => by
  rw [lgF_succ, lgF_other hp hc hd k (by omega), bgF_succ hk, ← plc_end hk]
  unfold lgS
  by_cases h1 : plcB back g k = (p : Int)
  ·rw [if_pos h1, miF_snoc, hc k hk]
   cases hdk : d k with
   | none =>
    rw [miS_none hdk, if_neg]
    rintro ⟨_, h2⟩
    cases hm : miF d (bgF g.roads k back p) with
    | none => rw [hm] at h2; simp [lgO, cLtB] at h2
    | some b =>
     rw [hm] at h2
     have := hd b.1 b.2 (miF_mem hm).2
     simp only [lgO, Option.getD_none, cLtB_iff, Cst.lt] at h2
     omega
   | some c =>
    have hct := hd k c hdk
    cases hm : miF d (bgF g.roads k back p) with
    | none =>
     rw [miS_first hdk, if_pos ⟨h1, by simp only [lgO, Option.getD_some, cLtB_iff, Cst.lt]; exact .inl hct⟩]
     rfl
    | some b =>
     cases hl : cLtB c b.2 with
     | true =>
      rw [miS_less hdk hl, if_pos ⟨h1, hl⟩]
      rfl
     | false =>
      rw [miS_not hdk hl, if_neg (fun hh => by have h2 := hh.2; rw [show cLtB ((some c).getD ⟨noT, 0⟩) (lgO (some b)).1 = cLtB c b.2 from rfl, hl] at h2; exact nomatch h2)]
  ·rw [if_neg h1, if_neg (fun hh => h1 hh.1)]
theorem lgF_start {bl : List Cst} {back : Bool} {g : GraphD} {p : Nat} (hn : ∀ x, x < g.roads.length → 0 ≤ (cAt bl x).t ∧ 0 ≤ (cAt bl x).c) : ∀ k, k ≤ g.roads.length → lgF bl back g (p : Int) k p = (⟨0, 0⟩, -1)
 | 0, _ => by
  show lg0 (p : Int) p = _
  unfold lg0
  rw [if_pos rfl]
 | k + 1, hk => by
  rw [lgF_succ, lgF_start hn k (by omega)]
  unfold lgS
  have := hn k hk
  rw [if_neg]
  rintro ⟨_, h2⟩
  simp only [cLtB_iff, Cst.lt] at h2
  omega

/-- A path, told. -/
structure PthD where
 ok : Bool
 roads : List Nat
 time : Int
 len : Int
end Go.Proofs.YtdlgehnoiaoneaaGreatDoor
