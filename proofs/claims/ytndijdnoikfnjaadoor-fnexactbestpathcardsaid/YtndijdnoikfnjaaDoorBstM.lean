/-
  The best path in the model: what it is chosen by: mathematics.
-/
import Derived.Test.YtndijdnoikfnjaaDoorChsS
import Derived.Test.YtndijdnoikfnjaaDoorBpI
namespace Go.Proofs.YtndijdnoikfnjaaDoor

/-- The path, once the first Road is chosen. -/
noncomputable def pthO (n : Nat) (g : GraphD) (d : Nat → Option Cst) : Option (Nat × Cst) → PthD
  | none => ⟨false, [], 0, 0⟩
  | some b => ⟨true, chR n g d b.2.c.toNat b.1, b.2.t, lnS g (chR n g d b.2.c.toNat b.1)⟩
theorem pthF_ne {n : Nat} {g : GraphD} {d : Nat → Option Cst} {s : Nat} {t : Int} (h : (s : Int) ≠ t) : pthF n g d s t = pthO n g d (miF d (bgF g.roads n true s)) := by
  unfold pthF
  rw [if_neg h]
  cases miF d (bgF g.roads n true s) <;> rfl
/-- What turning into a Road costs that goes on a best path; -1 for others. -/
noncomputable def exF (n : Nat) (g : GraphD) (d : Nat → Option Cst) (x y : Nat) : Int := if isN n g d x y = true then tnC g x y else -1
theorem exF_bd (n : Nat) (g : GraphD) (d : Nat → Option Cst) (x y : Nat) : -1 ≤ exF n g d x y ∧ exF n g d x y ≤ 20 := by
  have := tnC_bd g x y
  unfold exF
  split <;> omega
theorem stp_back (g : GraphD) (x y : Nat) : stpC true g y x = tnC g x y + (rdAt g x).time := rfl
theorem best_next {n : Nat} {g : GraphD} {d : Nat → Option Cst} {dl : List Cst} {x q : Nat} {c : Cst} (hd : mO n dl = d) (hx : d x = some c) (hq : (rdAt g x).to = (q : Int)) :
    chX (miF (chF dl (exF n g d x)) (bgF g.roads n true q)) = nxI (nxR n g d x) := by
  have hcg : ∀ y ∈ bgF g.roads n true q, chF dl (exF n g d x) y = if isN n g d x y = true then some (⟨c.t - (rdAt g x).time, c.c - 1⟩ : Cst) else none := fun y _ => by
    have hb := tnC_bd g x y
    by_cases hN : isN n g d x y = true
    · rw [if_pos hN]
      obtain ⟨cy, h1, _, h3⟩ := isN_iff.1 hN
      rw [hx] at h3
      injection h3 with h3
      rw [← hd] at h1
      obtain ⟨_, h5, h6⟩ := mO_some.1 h1
      unfold chF exF
      rw [if_pos hN, h5, if_neg (by omega)]
      rw [stp_back] at h3
      congr 1
      refine Cst.ext' ?_ ?_
      · have e : c.t = cy.t + (tnC g x y + (rdAt g x).time) := by rw [h3]; rfl
        show cy.t + tnC g x y = c.t - (rdAt g x).time
        omega
      · have e : c.c = cy.c + 1 := by rw [h3]; rfl
        show cy.c = c.c - 1
        omega
    · rw [if_neg hN]
      unfold chF exF
      rw [if_neg hN, if_pos (.inr (by decide))]
  rw [miF_congr hcg, miF_same (K := ⟨c.t - (rdAt g x).time, c.c - 1⟩) (fun y c' h => by
    split at h
    · injection h with h; exact h.symm
    · exact nomatch h)]
  unfold chX nxR
  rw [hq, Int.toNat_natCast, Option.map_map]
  congr 1
  rw [show (fun y => (if isN n g d x y = true then some (⟨c.t - (rdAt g x).time, c.c - 1⟩ : Cst) else none).isSome) = isN n g d x from by
    funext y
    cases isN n g d x y <;> rfl]
  cases (bgF g.roads n true q).find? (isN n g d x) <;> rfl
theorem best_first {n : Nat} {g : GraphD} {d : Nat → Option Cst} {dl : List Cst} {s : Nat} (hd : mO n dl = d) : miF (chF dl fun _ => 0) (bgF g.roads n true s) = miF d (bgF g.roads n true s) := by
  refine miF_congr fun y hy => ?_
  have hyn := bgF_mem hy
  rw [← hd]
  unfold chF mO
  by_cases h : 0 ≤ (cAt dl y).t
  · rw [if_neg (fun hh => hh.elim (fun h1 => by omega) (fun h2 => by have h3 : (0 : Int) < 0 := h2; omega)), if_pos ⟨hyn, h⟩]
    congr 1
    exact Cst.ext' (by show _ + 0 = _; omega) rfl
  · rw [if_pos (.inl (by omega)), if_neg (fun hh => h hh.2)]
theorem isN_model {n : Nat} {g : GraphD} {d : Nat → Option Cst} {dl : List Cst} {x y : Nat} {c : Cst} (hd : mO n dl = d) (hx : d x = some c) (hy : y < n) :
    isN n g d x y = (decide ((cAt dl y).c = c.c - 1) && (decide (0 ≤ tnB g x y) && (decide (0 ≤ (cAt dl y).t) && decide ((rdAt g x).time + tnB g x y + (cAt dl y).t = c.t)))) := by
  have hb := tnC_bd g x y
  have e : bnd (mkS n true) g y x = bP (inL g.bans (x : Int) (y : Int)) := rfl
  rw [Bool.eq_iff_iff, isN_iff]
  simp only [Bool.and_eq_true, decide_eq_true_eq]
  constructor
  · rintro ⟨cy, h1, h2, h3⟩
    rw [hx] at h3
    injection h3 with h3
    rw [← hd] at h1
    obtain ⟨_, h5, h6⟩ := mO_some.1 h1
    rw [e] at h2
    rw [tnB_ok h2, h5]
    have e1 : c.t = cy.t + (tnC g x y + (rdAt g x).time) := by rw [h3]; rfl
    have e2 : c.c = cy.c + 1 := by rw [h3]; rfl
    exact ⟨by omega, by omega, h6, by omega⟩
  · rintro ⟨h1, h2, h3, h4⟩
    cases hbn : bP (inL g.bans (x : Int) (y : Int)) with
    | true => rw [tnB_ban hbn] at h2; omega
    | false =>
      rw [tnB_ok hbn] at h4
      refine ⟨cAt dl y, by rw [← hd]; exact mO_some.2 ⟨hy, rfl, h3⟩, by rw [e]; exact hbn, ?_⟩
      rw [hx]
      congr 1
      exact Cst.ext' (by show c.t = (cAt dl y).t + (tnC g x y + (rdAt g x).time); omega) (by show c.c = (cAt dl y).c + 1; omega)
theorem exF_yes {n : Nat} {g : GraphD} {d : Nat → Option Cst} {x y : Nat} (h : isN n g d x y = true) : exF n g d x y = tnB g x y := by
  obtain ⟨cy, _, h2, _⟩ := isN_iff.1 h
  unfold exF
  rw [if_pos h, tnB_ok (by exact h2)]
theorem exF_no {n : Nat} {g : GraphD} {d : Nat → Option Cst} {x y : Nat} (h : isN n g d x y = false) : exF n g d x y = -1 := by
  unfold exF
  rw [if_neg (by rw [h]; decide)]
end Go.Proofs.YtndijdnoikfnjaaDoor
