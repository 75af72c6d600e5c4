/-
  What a path takes: plain mathematics.
-/
import Derived.Test.YtponmbjflablcaaDoorTtM
namespace Go.Proofs.YtponmbjflablcaaDoor
open Go.RowKit

/-- What going on from a place by a Road costs: the turn (none at the first), its Time; and where one is then. -/
noncomputable def paStep (g : GraphD) (l : List Int) (k : Nat) (st : Option (Int × Int)) : Option (Int × Int) :=
  st.bind fun c => if inN g.roads.length (l[k]?.getD 0) = true ∧ (rdAt g (l[k]?.getD 0).toNat).fr = c.2 ∧ (k = 0 ∨ 0 ≤ tnB g (l[k - 1]?.getD 0).toNat (l[k]?.getD 0).toNat) then
    some (c.1 + (if k = 0 then 0 else tnB g (l[k - 1]?.getD 0).toNat (l[k]?.getD 0).toNat) + (rdAt g (l[k]?.getD 0).toNat).time, (rdAt g (l[k]?.getD 0).toNat).to) else none
/-- The first k Roads: how long they take, where they lead. -/
noncomputable def paS (g : GraphD) (l : List Int) (s : Int) : Nat → Option (Int × Int)
  | 0 => some (0, s)
  | k + 1 => paStep g l k (paS g l s k)
theorem paS_none {g : GraphD} {l : List Int} {s : Int} {k : Nat} (h : paS g l s k = none) : ∀ m, k ≤ m → paS g l s m = none
  | 0, hm => by obtain rfl : k = 0 := by omega
                exact h
  | m + 1, hm => by
    by_cases e : k = m + 1
    · subst e; exact h
    · show paStep g l m (paS g l s m) = none
      rw [paS_none h m (by omega)]; rfl
/-- The time of a path. -/
noncomputable def paE (g : GraphD) (l : List Int) (s t : Int) : Int := match paS g l s l.length with | some c => if c.2 = t then c.1 else -1 | none => -1
noncomputable def paQ (g : GraphD) (l : List Int) (s t : Int) : Int := if bP (graphP g) = true ∧ inN g.places.length s = true ∧ inN g.places.length t = true then paE g l s t else -1
theorem paQ_no {g : GraphD} {l : List Int} {s t : Int} (h : ¬ (graphP g ∧ inN g.places.length s = true ∧ inN g.places.length t = true)) : paQ g l s t = -1 := by
  unfold paQ
  rw [if_neg fun hh => h ⟨bP_out hh.1, hh.2⟩]
theorem paQ_at {g : GraphD} {l : List Int} {s t : Int} (hP : graphP g) (hs : inN g.places.length s = true) (ht : inN g.places.length t = true) : paQ g l s t = paE g l s t := by
  unfold paQ
  rw [if_pos ⟨bP_true hP, hs, ht⟩]
theorem paE_none {g : GraphD} {l : List Int} {s t : Int} {k : Nat} (hk : k ≤ l.length) (h : paS g l s k = none) : paE g l s t = -1 := by
  unfold paE
  rw [paS_none h _ hk]
theorem paE_end {g : GraphD} {l : List Int} {s t a b : Int} (h : paS g l s l.length = some (a, b)) (e : b = t) : paE g l s t = a := by
  unfold paE
  rw [h]
  simp [e]
theorem paE_off {g : GraphD} {l : List Int} {s t a b : Int} (h : paS g l s l.length = some (a, b)) (e : ¬ b = t) : paE g l s t = -1 := by
  unfold paE
  rw [h]
  simp [e]
theorem paS_out {g : GraphD} {l : List Int} {s a b : Int} {k : Nat} (hk : k < l.length) (h : paS g l s k = some (a, b)) (hx : inN g.roads.length l[k] = false) : paS g l s (k + 1) = none := by
  show paStep g l k (paS g l s k) = none
  rw [h]
  simp [paStep, hk, hx]
theorem paS_apart {g : GraphD} {l : List Int} {s a b : Int} {k i : Nat} (hk : k < l.length) (h : paS g l s k = some (a, b)) (hx : l[k] = (i : Int)) (hf : ¬ (rdAt g i).fr = b) : paS g l s (k + 1) = none := by
  show paStep g l k (paS g l s k) = none
  rw [h]
  simp [paStep, hk, hx, hf]
theorem paS_first {g : GraphD} {l : List Int} {s a b : Int} {i : Nat} (hk : 0 < l.length) (h : paS g l s 0 = some (a, b)) (hx : l[0] = (i : Int)) (hi : i < g.roads.length) (hf : (rdAt g i).fr = b) : paS g l s (0 + 1) = some (a + (rdAt g i).time, (rdAt g i).to) := by
  show paStep g l 0 (paS g l s 0) = _
  rw [h]
  have h1 : inN g.roads.length (i : Int) = true := inN_iff.2 ⟨by omega, by omega⟩
  simp [paStep, hk, hx, hf, h1]
theorem paS_ban {g : GraphD} {l : List Int} {s a b : Int} {k i j : Nat} (hk : k + 1 < l.length) (h : paS g l s (k + 1) = some (a, b)) (hj : l[k]'(by omega) = (j : Int)) (hx : l[k + 1] = (i : Int)) (hf : tnB g j i < 0) : paS g l s (k + 1 + 1) = none := by
  show paStep g l (k + 1) (paS g l s (k + 1)) = none
  rw [h]
  have h0 : k < l.length := by omega
  have h2 : ¬ 0 ≤ tnB g j i := by omega
  simp [paStep, hk, h0, hx, hj, h2]
theorem paS_on {g : GraphD} {l : List Int} {s a b : Int} {k i j : Nat} (hk : k + 1 < l.length) (h : paS g l s (k + 1) = some (a, b)) (hj : l[k]'(by omega) = (j : Int)) (hx : l[k + 1] = (i : Int)) (hi : i < g.roads.length) (hf : (rdAt g i).fr = b) (ht : 0 ≤ tnB g j i) : paS g l s (k + 1 + 1) = some (a + tnB g j i + (rdAt g i).time, (rdAt g i).to) := by
  show paStep g l (k + 1) (paS g l s (k + 1)) = _
  rw [h]
  have h0 : k < l.length := by omega
  have h1 : inN g.roads.length (i : Int) = true := inN_iff.2 ⟨by omega, by omega⟩
  simp [paStep, hk, h0, hx, hj, hf, h1, ht]
/-- Where a path is behind its first k + 1 Roads. -/
theorem paS_last {g : GraphD} {l : List Int} {s a b : Int} {k : Nat} (hk : k < l.length) (h : paS g l s (k + 1) = some (a, b)) : ∃ j : Nat, l[k] = (j : Int) ∧ j < g.roads.length ∧ (rdAt g j).to = b := by
  have h' : paStep g l k (paS g l s k) = some (a, b) := h
  cases hc : paS g l s k with
  | none => rw [hc] at h'; cases h'
  | some c =>
    rw [hc] at h'
    simp only [paStep, Option.bind_some] at h'
    split at h'
    · rename_i hh
      have h1 := hh.1
      simp only [hk, List.getElem?_eq_getElem, Option.getD_some] at h1 h'
      obtain ⟨j, hj, ej⟩ := inN_nat h1
      refine ⟨j, ej, hj, ?_⟩
      injection h' with h'
      injection h' with _ h'
      rw [ej, Int.toNat_natCast] at h'
      exact h'
    · cases h'
end Go.Proofs.YtponmbjflablcaaDoor
