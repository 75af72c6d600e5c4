/-
  Rings as data: rows that can be, where a point lies; the model as functions of lists.
-/
import Derived.Test.YtkpgcnfokohhiaaRngD
import Derived.Test.YtkpgcnfokohhiaaPtsC
import Derived.Test.YtkpgcnfokohhiaaCrossC
namespace Go.Proofs.Ytkpgcnfokohhiaa
open Go.RowKit

def lx (l : List PtD) (i : Nat) : Int := (l.getD i ⟨0, 0⟩).x
def ly (l : List PtD) (i : Nat) : Int := (l.getD i ⟨0, 0⟩).y
theorem lx_at {l : List PtD} {i : Nat} (h : i < l.length) : lx l i = l[i].x := by simp [lx, h]
theorem ly_at {l : List PtD} {i : Nat} (h : i < l.length) : ly l i = l[i].y := by simp [ly, h]
theorem Sl.pts {w : World} {a : Option Addr} {l : List PtD} {bs : List Nat} (h : PtL w a l bs) : Pts w a l.length (lx l) (ly l) := by
  rcases h with ⟨rfl, _⟩ | ⟨b, off, f, h1, h2, _, h4⟩
  · exact .inl rfl
  · refine .inr ⟨b, off, h1, h2, fun i hi => ?_⟩
    obtain ⟨_, _, _, c0, c1⟩ := h4 i hi
    rw [lx_at hi, ly_at hi]
    exact ⟨c0, c1⟩

/-- A row of points is one. -/
def rwB (l : List PtD) : Bool := rowB l.length (lx l) (ly l)
/-- Rings are rows, and not too many. -/
def rgsB (rs : List RingD) : Bool := decide (rs.length ≤ 40) && rs.all fun r => rwB r.row
theorem rgsB_big {rs : List RingD} (h : 40 < rs.length) : rgsB rs = false := by simp [rgsB, show ¬ rs.length ≤ 40 by omega]
theorem rgsB_at {rs : List RingD} {k : Nat} (hk : k < rs.length) (h : rwB rs[k].row = false) : rgsB rs = false := by
  cases e : rgsB rs with
  | false => rfl
  | true =>
    simp only [rgsB, Bool.and_eq_true, List.all_eq_true] at e
    have := e.2 _ (List.getElem_mem hk)
    rw [h] at this; cases this
theorem rgsB_true {rs : List RingD} (h : rs.length ≤ 40) (ha : ∀ j (hj : j < rs.length), rwB rs[j].row = true) : rgsB rs = true := by
  simp only [rgsB, Bool.and_eq_true, List.all_eq_true, decide_eq_true_eq]
  refine ⟨h, fun r hr => ?_⟩
  obtain ⟨j, hj, rfl⟩ := List.mem_iff_getElem.1 hr
  exact ha j hj
theorem rgsB_out {rs : List RingD} (h : rgsB rs = true) : rs.length ≤ 40 ∧ ∀ j (hj : j < rs.length), rs[j].row.length ≤ 2000 ∧ ∀ i, i < rs[j].row.length → POk (lx rs[j].row i) (ly rs[j].row i) := by
  simp only [rgsB, Bool.and_eq_true, List.all_eq_true, decide_eq_true_eq] at h
  exact ⟨h.1, fun j hj => rowB_out (h.2 _ (List.getElem_mem hj))⟩

/-! ### Where a point lies -/
/-- A stretch lies to the right of a point. -/
def rtB (ax ay bx bY px py : Int) : Bool := (decide (ay ≤ py) && (decide (py < bY) && decide (0 < trn ax ay bx bY px py))) || (decide (bY ≤ py) && (decide (py < ay) && decide (trn ax ay bx bY px py < 0)))
theorem trn_swap (ax ay bx bY px py : Int) : trn bx bY ax ay px py = - trn ax ay bx bY px py := by
  unfold trn
  simp only [Int.sub_mul, Int.mul_sub, Int.mul_comm bY ax, Int.mul_comm ay bx, Int.mul_comm ay ax, Int.mul_comm bY bx, Int.mul_comm ay px, Int.mul_comm bY px]
  omega
theorem sgn_pos_iff {n : Int} : 0 < sgn n ↔ 0 < n := by unfold sgn; split <;> (try split) <;> omega
theorem sgn_neg_iff {n : Int} : sgn n < 0 ↔ n < 0 := by unfold sgn; split <;> (try split) <;> omega
theorem sgn_zero_iff {n : Int} : sgn n = 0 ↔ n = 0 := by unfold sgn; split <;> (try split) <;> omega
def stOn (l : List PtD) (px py : Int) (i : Nat) : Bool := onB (lx l i) (ly l i) (lx l (i + 1)) (ly l (i + 1)) px py
def stRt (l : List PtD) (px py : Int) (i : Nat) : Bool := rtB (lx l i) (ly l i) (lx l (i + 1)) (ly l (i + 1)) px py
/-- How many of the first stretches lie to the right. -/
def cntT (l : List PtD) (px py : Int) : Nat → Nat
  | 0 => 0
  | k + 1 => cntT l px py k + (stRt l px py k).toNat
def cntR (rs : List RingD) (px py : Int) : Nat → Nat
  | 0 => 0
  | k + 1 => cntR rs px py k + cntT (rs.getD k ⟨[], false⟩).row px py ((rs.getD k ⟨[], false⟩).row.length - 1)
theorem cntT_le (l : List PtD) (px py : Int) : ∀ k, cntT l px py k ≤ k
  | 0 => Nat.le_refl _
  | k + 1 => by
    have h1 := cntT_le l px py k
    have h2 : (stRt l px py k).toNat ≤ 1 := by cases stRt l px py k <;> decide
    simp only [cntT]; omega
theorem cntR_le {rs : List RingD} (px py : Int) (h : ∀ j (hj : j < rs.length), rs[j].row.length ≤ 2000) : ∀ k, k ≤ rs.length → cntR rs px py k ≤ 2000 * k
  | 0, _ => Nat.le_refl _
  | k + 1, hk => by
    have h1 := cntR_le px py h k (by omega)
    have h2 := cntT_le (rs.getD k ⟨[], false⟩).row px py ((rs.getD k ⟨[], false⟩).row.length - 1)
    have h3 := h k (by omega)
    have e : rs.getD k ⟨[], false⟩ = rs[k] := by simp [show k < rs.length by omega]
    simp only [cntR]
    rw [e] at h2 ⊢
    omega
theorem cntR_at {rs : List RingD} {px py : Int} {k : Nat} (hk : k < rs.length) : cntR rs px py (k + 1) = cntR rs px py k + cntT rs[k].row px py (rs[k].row.length - 1) := by
  simp [cntR, hk]
/-- The point lies on a stretch of one of the rings. -/
def onR (rs : List RingD) (px py : Int) : Bool := rs.any fun r => (List.range (r.row.length - 1)).any (stOn r.row px py)
theorem onR_true {rs : List RingD} {px py : Int} {k i : Nat} (hk : k < rs.length) (hi : i + 1 < rs[k].row.length) (h : stOn rs[k].row px py i = true) : onR rs px py = true := by
  simp only [onR, List.any_eq_true]
  exact ⟨_, List.getElem_mem hk, i, List.mem_range.2 (by omega), h⟩
theorem onR_false {rs : List RingD} {px py : Int} (h : ∀ k (hk : k < rs.length) i, i + 1 < rs[k].row.length → stOn rs[k].row px py i = false) : onR rs px py = false := by
  cases e : onR rs px py with
  | false => rfl
  | true =>
    simp only [onR, List.any_eq_true] at e
    obtain ⟨r, hr, i, hi, h1⟩ := e
    obtain ⟨k, hk, rfl⟩ := List.mem_iff_getElem.1 hr
    have := h k hk i (by have := List.mem_range.1 hi; omega)
    rw [this] at h1; cases h1
/-- Inside, of rings that are rows. -/
def insR (rs : List RingD) (px py : Int) : Int := if onR rs px py then 0 else if cntR rs px py rs.length % 2 = 1 then 1 else -1
/-- Inside as both tell it. -/
def insOf (rs : List RingD) (px py : Int) : Int := if rgsB rs && pok px py then insR rs px py else -1
end Go.Proofs.Ytkpgcnfokohhiaa
