/-
  What two lists of Roads have in common, whether a path loops: plain mathematics.
-/
import Derived.Test.YtbfaofgdnobheaaGphM
namespace Go.Proofs.Ytbfaofgdnobheaa
open Go.RowKit Go.Maps

/-- A Road by its number. -/
def rdX (g : GraphD) (i : Nat) : RoadD := g.roads[i]?.getD default
theorem rdX_eq {g : GraphD} {i : Nat} (h : i < g.roads.length) : rdX g i = g.roads[i] := by simp [rdX, h]

/-- The sum over those of the first n numbers that are told. -/
def sumP (T : Nat → Int) (p : Nat → Bool) : Nat → Int
  | 0 => 0
  | n + 1 => sumP T p n + (if p n = true then T n else 0)
theorem sumP_congr {T : Nat → Int} {p q : Nat → Bool} : ∀ {n : Nat}, (∀ i, i < n → p i = q i) → sumP T p n = sumP T q n
  | 0, _ => rfl
  | n + 1, h => by
    show sumP T p n + _ = sumP T q n + _
    rw [sumP_congr (fun i hi => h i (by omega)), h n (by omega)]
theorem sumP_add {T : Nat → Int} {p q : Nat → Bool} {r : Nat} (hp : p r = false) (hq : q r = true) (h : ∀ i, i ≠ r → q i = p i) : ∀ {n : Nat}, sumP T q n = sumP T p n + (if r < n then T r else 0)
  | 0 => by simp [sumP]
  | n + 1 => by
    show sumP T q n + _ = sumP T p n + _ + _
    rw [sumP_add hp hq h]
    by_cases e : n = r
    · subst e; simp [hp, hq]
    · rw [h n e]
      generalize (if p n = true then T n else 0) = z
      by_cases e2 : r < n
      · have e3 : r < n + 1 := by omega
        rw [if_pos e2, if_pos e3]; omega
      · have e3 : ¬ r < n + 1 := by omega
        rw [if_neg e2, if_neg e3]; omega
theorem sumP_bd {T : Nat → Int} {p : Nat → Bool} : ∀ {n : Nat}, (∀ i, i < n → 0 ≤ T i ∧ T i ≤ 1000000) → 0 ≤ sumP T p n ∧ sumP T p n ≤ n * 1000000
  | 0, _ => ⟨Int.le_refl _, by simp [sumP]⟩
  | n + 1, h => by
    have h1 := sumP_bd (p := p) fun i (hi : i < n) => h i (by omega)
    have h2 := h n (by omega)
    show 0 ≤ sumP T p n + _ ∧ sumP T p n + _ ≤ _
    split <;> omega

/-- Is a number among the first k of a list? -/
def hasT (l : List Int) (k r : Nat) : Bool := (l.take k).any fun x => decide (x = (r : Int))
theorem hasT_zero (l : List Int) (r : Nat) : hasT l 0 r = false := by simp [hasT]
theorem hasT_succ {l : List Int} {k r : Nat} (h : k < l.length) : hasT l (k + 1) r = (hasT l k r || decide (l[k] = (r : Int))) := by
  unfold hasT; rw [List.take_succ_eq_append_getElem h, List.any_append]; simp
theorem hasT_set {l : List Int} {k r : Nat} (h : k < l.length) (hx : l[k] = (r : Int)) (i : Nat) : (if i = r then true else hasT l k i) = hasT l (k + 1) i := by
  rw [hasT_succ h, hx]
  by_cases e : i = r
  · subst e; simp
  · have : ¬ ((r : Int) = (i : Int)) := by omega
    simp [e, this]

/-- Those of A that are not yet met, and the sum of those that are. -/
def cmL (A : Nat → Bool) (l : List Int) (k r : Nat) : Bool := A r && !hasT l k r
def cmS (T : Nat → Int) (A : Nat → Bool) (l : List Int) (n k : Nat) : Int := sumP T (fun r => A r && hasT l k r) n
theorem cmL_zero (A : Nat → Bool) (l : List Int) (r : Nat) : cmL A l 0 r = A r := by simp [cmL, hasT_zero]
theorem sumP_none (T : Nat → Int) : ∀ n : Nat, sumP T (fun _ => false) n = 0
  | 0 => rfl
  | n + 1 => by
    show sumP T (fun _ => false) n + _ = 0
    rw [sumP_none T n]; simp
theorem cmS_zero (T : Nat → Int) (A : Nat → Bool) (l : List Int) (n : Nat) : cmS T A l n 0 = 0 := by
  unfold cmS
  rw [sumP_congr (q := fun _ => false) (fun i _ => by simp [hasT_zero]), sumP_none]
theorem cmS_yes {T : Nat → Int} {A : Nat → Bool} {l : List Int} {n k r : Nat} (hk : k < l.length) (hx : l[k] = (r : Int)) (hr : r < n) (hL : cmL A l k r = true) : cmS T A l n (k + 1) = cmS T A l n k + T r := by
  unfold cmS
  simp only [cmL, Bool.and_eq_true, Bool.not_eq_true'] at hL
  rw [sumP_add (p := fun i => A i && hasT l k i) (q := fun i => A i && hasT l (k + 1) i) (r := r) (by simp [hL.2]) (by rw [hasT_succ hk, hx]; simp [hL.1]) (fun i hi => by
    rw [hasT_succ hk, hx]
    have : ¬ ((r : Int) = (i : Int)) := by omega
    simp [this]), if_pos hr]
theorem cmL_yes {A : Nat → Bool} {l : List Int} {k r : Nat} (hk : k < l.length) (hx : l[k] = (r : Int)) (i : Nat) : (if i = r then false else cmL A l k i) = cmL A l (k + 1) i := by
  unfold cmL
  rw [← hasT_set hk hx i]
  by_cases e : i = r <;> simp [e]
theorem cmL_no {A : Nat → Bool} {l : List Int} {k r : Nat} (hk : k < l.length) (hx : l[k] = (r : Int)) (hL : cmL A l k r = false) (i : Nat) : cmL A l k i = cmL A l (k + 1) i := by
  rw [← cmL_yes hk hx i]
  by_cases e : i = r
  · subst e; rw [if_pos rfl, hL]
  · rw [if_neg e]
theorem cmS_no {T : Nat → Int} {A : Nat → Bool} {l : List Int} {n k r : Nat} (hk : k < l.length) (hx : l[k] = (r : Int)) (hL : cmL A l k r = false) : cmS T A l n (k + 1) = cmS T A l n k := by
  unfold cmS
  refine sumP_congr fun i _ => ?_
  rw [hasT_succ hk, hx]
  by_cases e : i = r
  · subst e
    unfold cmL at hL
    cases h1 : A i
    · simp
    · cases h2 : hasT l k i
      · rw [h1, h2] at hL; cases hL
      · simp
  · have : ¬ ((r : Int) = (i : Int)) := by omega
    simp [this]
theorem cmS_comm (T : Nat → Int) (a b : List Int) (n p q : Nat) : cmS T (hasT a p) b n q = cmS T (hasT b q) a n p := by
  unfold cmS
  exact sumP_congr fun i _ => Bool.and_comm _ _

/-- All are numbers of Roads. -/
def rdsB (n : Nat) (l : List Int) : Bool := l.all (inN n)
theorem rdsB_no {n : Nat} {l : List Int} {k : Nat} (h : k < l.length) (hx : inN n l[k] = false) : rdsB n l = false := by
  unfold rdsB
  rw [List.all_eq_false]
  exact ⟨l[k], List.getElem_mem h, by simp [hx]⟩
theorem rdsB_yes {n : Nat} {l : List Int} (h : ∀ k (h : k < l.length), inN n l[k] = true) : rdsB n l = true := by
  unfold rdsB
  rw [List.all_eq_true]
  intro x hx
  obtain ⟨k, hk, rfl⟩ := List.mem_iff_getElem.1 hx
  exact h k hk
theorem rdsB_at {n : Nat} {l : List Int} (h : rdsB n l = true) {k : Nat} (hk : k < l.length) : ∃ i : Nat, i < n ∧ l[k] = (i : Int) := by
  unfold rdsB at h
  rw [List.all_eq_true] at h
  exact inN_nat (h _ (List.getElem_mem hk))

/-- What they have in common. -/
noncomputable def cmQ (g : GraphD) (a b : List Int) : Int :=
  if bP (graphP g) = true ∧ rdsB g.roads.length a = true ∧ rdsB g.roads.length b = true then cmS (fun i => (rdX g i).time) (hasT a a.length) b g.roads.length b.length else 0
theorem cmQ_no {g : GraphD} {a b : List Int} (h : ¬ (graphP g ∧ rdsB g.roads.length a = true ∧ rdsB g.roads.length b = true)) : cmQ g a b = 0 := by
  unfold cmQ
  rw [if_neg fun hh => h ⟨bP_out hh.1, hh.2⟩]
theorem cmQ_at {g : GraphD} {a b : List Int} (hP : graphP g) (ha : rdsB g.roads.length a = true) (hb : rdsB g.roads.length b = true) : cmQ g a b = cmS (fun i => (rdX g i).time) (hasT a a.length) b g.roads.length b.length := by
  unfold cmQ
  rw [if_pos ⟨bP_true hP, ha, hb⟩]
theorem cmQ_at' {g : GraphD} {a b : List Int} (hP : graphP g) (ha : rdsB g.roads.length a = true) (hb : rdsB g.roads.length b = true) : cmQ g a b = cmS (fun i => (rdX g i).time) (hasT b b.length) a g.roads.length a.length := by
  rw [cmQ_at hP ha hb, cmS_comm]
theorem time_bd {g : GraphD} (hP : graphP g) : ∀ i, i < g.roads.length → 0 ≤ (rdX g i).time ∧ (rdX g i).time ≤ 1000000 := fun i hi => by
  have := roadB_out (hP.2.2.1 i hi)
  rw [rdX_eq hi]
  omega
theorem cmS_bd {g : GraphD} (hP : graphP g) (A : Nat → Bool) (l : List Int) (k : Nat) : 0 ≤ cmS (fun i => (rdX g i).time) A l g.roads.length k ∧ cmS (fun i => (rdX g i).time) A l g.roads.length k ≤ 8000000000 := by
  have h1 := sumP_bd (p := fun r => A r && hasT l k r) (time_bd hP)
  have h2 := hP.1.2.1
  unfold cmS
  omega

/-! ### Loops -/
/-- The number of a list's k-th Road. -/
def lpI (l : List Int) (k : Nat) : Nat := (l[k]?.getD 0).toNat
theorem lpI_at {l : List Int} {k i : Nat} (hk : k < l.length) (hx : l[k] = (i : Int)) : lpI l k = i := by simp [lpI, hk, hx]
/-- The place r was come to by the first k Roads (or is where the first one begins). -/
noncomputable def lpW (g : GraphD) (l : List Int) (k r : Nat) : Bool := bP (0 < k ∧ ((rdX g (lpI l 0)).fr = (r : Int) ∨ ∃ j, j < k ∧ (rdX g (lpI l j)).to = (r : Int)))
theorem lpW_zero (g : GraphD) (l : List Int) (r : Nat) : lpW g l 0 r = false := bP_false fun h => absurd h.1 (Nat.lt_irrefl _)
/-- With the first Road's beginning. -/
noncomputable def lpV (g : GraphD) (l : List Int) (k r : Nat) : Bool := bP ((rdX g (lpI l 0)).fr = (r : Int) ∨ ∃ j, j < k ∧ (rdX g (lpI l j)).to = (r : Int))
theorem bP_iff {p q : Prop} (h : p ↔ q) : bP p = bP q := by rw [propext h]
theorem lpV_first {g : GraphD} {l : List Int} {f : Nat} (hf : (rdX g (lpI l 0)).fr = (f : Int)) (r : Nat) : (if r = f then true else lpW g l 0 r) = lpV g l 0 r := by
  unfold lpV
  rw [lpW_zero, hf]
  by_cases e : r = f
  · subst e; rw [if_pos rfl, bP_true (.inl rfl)]
  · rw [if_neg e, bP_false]
    rintro (h | ⟨j, hj, _⟩)
    · omega
    · exact absurd hj (Nat.not_lt_zero _)
theorem lpV_on (g : GraphD) (l : List Int) (k r : Nat) : lpW g l (k + 1) r = lpV g l (k + 1) r := bP_iff ⟨fun h => h.2, fun h => ⟨Nat.succ_pos _, h⟩⟩
theorem lpV_set {g : GraphD} {l : List Int} {k t : Nat} (ht : (rdX g (lpI l k)).to = (t : Int)) (r : Nat) : (if r = t then true else lpV g l k r) = lpW g l (k + 1) r := by
  rw [lpV_on]
  unfold lpV
  by_cases e : r = t
  · subst e; rw [if_pos rfl, bP_true (.inr ⟨k, Nat.lt_succ_self _, ht⟩)]
  · rw [if_neg e]
    refine bP_iff ⟨fun h => h.imp id fun ⟨j, hj, h⟩ => ⟨j, by omega, h⟩, fun h => h.imp id fun ⟨j, hj, hx⟩ => ?_⟩
    by_cases e2 : j = k
    · subst e2; rw [ht] at hx; omega
    · exact ⟨j, by omega, hx⟩
/-- At the k-th Road a place is come to again. -/
def lpAt (g : GraphD) (l : List Int) (k : Nat) : Prop := (rdX g (lpI l 0)).fr = (rdX g (lpI l k)).to ∨ ∃ j, j < k ∧ (rdX g (lpI l j)).to = (rdX g (lpI l k)).to
theorem lpV_yes {g : GraphD} {l : List Int} {k t : Nat} (ht : (rdX g (lpI l k)).to = (t : Int)) : lpV g l k t = bP (lpAt g l k) := by
  unfold lpV lpAt
  rw [ht]
noncomputable def lpQ (g : GraphD) (l : List Int) : Bool := bP (graphP g ∧ rdsB g.roads.length l = true ∧ ∃ k, k < l.length ∧ lpAt g l k)
theorem lpQ_no {g : GraphD} {l : List Int} (h : ¬ (graphP g ∧ rdsB g.roads.length l = true)) : lpQ g l = false := bP_false fun hh => h ⟨hh.1, hh.2.1⟩
theorem lpQ_end {g : GraphD} {l : List Int} (h : ∀ k, k < l.length → ¬ lpAt g l k) : lpQ g l = false := bP_false fun ⟨_, _, k, hk, hh⟩ => h k hk hh
theorem lpQ_yes {g : GraphD} {l : List Int} (hP : graphP g) (hl : rdsB g.roads.length l = true) {k : Nat} (hk : k < l.length) (h : lpAt g l k) : lpQ g l = true := bP_true ⟨hP, hl, k, hk, h⟩
end Go.Proofs.Ytbfaofgdnobheaa
