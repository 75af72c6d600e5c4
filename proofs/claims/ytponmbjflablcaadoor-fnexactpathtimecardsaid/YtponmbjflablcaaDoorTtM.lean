/-
  What turns cost, what a path takes: plain mathematics.
-/
import Derived.Test.YtponmbjflablcaaDoorTrqM
import Derived.Test.YtponmbjflablcaaDoorHeadC
namespace Go.Proofs.YtponmbjflablcaaDoor
open Go.RowKit

/-- A Road by its number. -/
def rdAt (g : GraphD) (i : Nat) : RoadD := g.roads[i]?.getD default
theorem rdAt_eq {g : GraphD} {i : Nat} (h : i < g.roads.length) : rdAt g i = g.roads[i] := by simp [rdAt, h]
def spAt (g : GraphD) (i : Nat) : SpotD := g.places[i]?.getD default
theorem spAt_eq {g : GraphD} {i : Nat} (h : i < g.places.length) : spAt g i = g.places[i] := by simp [spAt, h]
/-- A Road's wind. -/
def hdR (g : GraphD) (i : Nat) : Int := headOf (spAt g (rdAt g i).fr.toNat).x (spAt g (rdAt g i).fr.toNat).y (spAt g (rdAt g i).to.toNat).x (spAt g (rdAt g i).to.toNat).y
theorem hdR_at {g : GraphD} {i p q : Nat} (hi : i < g.roads.length) (hp : p < g.places.length) (hq : q < g.places.length) (e1 : g.roads[i].fr = (p : Int)) (e2 : g.roads[i].to = (q : Int)) :
    hdR g i = headOf g.places[p].x g.places[p].y g.places[q].x g.places[q].y := by
  unfold hdR
  rw [rdAt_eq hi, e1, e2, Int.toNat_natCast, Int.toNat_natCast, spAt_eq hp, spAt_eq hq]
theorem wind_bd (x y : Int) : 0 ≤ wind x y ∧ wind x y ≤ 7 := by
  unfold wind
  repeat' split
  all_goals omega
theorem headOf_bd (a b c d : Int) : -1 ≤ headOf a b c d ∧ headOf a b c d ≤ 7 := by
  have := wind_bd (c - a) (d - b)
  unfold headOf
  split <;> omega
theorem hdR_bd (g : GraphD) (i : Nat) : -1 ≤ hdR g i ∧ hdR g i ≤ 7 := headOf_bd _ _ _ _
/-- What turning costs by the winds. -/
def wdC (a b : Int) : Int := if a < 0 ∨ b < 0 then 0 else if (b - a + 8) % 8 = 2 ∨ (b - a + 8) % 8 = 3 ∨ (b - a + 8) % 8 = 4 then 5 else if (b - a + 8) % 8 = 5 ∨ (b - a + 8) % 8 = 6 then 3 else 0
theorem wdC_no {a b : Int} (h : a < 0 ∨ b < 0) : wdC a b = 0 := if_pos h
theorem wdC_5 {a b : Int} (h : ¬ (a < 0 ∨ b < 0)) (h2 : (b - a + 8) % 8 = 2 ∨ (b - a + 8) % 8 = 3 ∨ (b - a + 8) % 8 = 4) : wdC a b = 5 := by unfold wdC; rw [if_neg h, if_pos h2]
theorem wdC_3 {a b : Int} (h : ¬ (a < 0 ∨ b < 0)) (h2 : (b - a + 8) % 8 = 5 ∨ (b - a + 8) % 8 = 6) : wdC a b = 3 := by unfold wdC; rw [if_neg h, if_neg (by omega), if_pos h2]
theorem wdC_0 {a b : Int} (h : ¬ (a < 0 ∨ b < 0)) (h2 : (b - a + 8) % 8 = 0 ∨ (b - a + 8) % 8 = 1 ∨ (b - a + 8) % 8 = 7) : wdC a b = 0 := by unfold wdC; rw [if_neg h, if_neg (by omega), if_neg (by omega)]
theorem wdC_bd (a b : Int) : 0 ≤ wdC a b ∧ wdC a b ≤ 5 := by unfold wdC; repeat' split; all_goals omega
/-- What a turn costs if it may be taken. -/
def tnC (g : GraphD) (i j : Nat) : Int := if (rdAt g j).to = (rdAt g i).fr then 20 else wdC (hdR g i) (hdR g j)
theorem tnC_back {g : GraphD} {i j : Nat} (h : (rdAt g j).to = (rdAt g i).fr) : tnC g i j = 20 := if_pos h
theorem tnC_on {g : GraphD} {i j : Nat} (h : ¬ (rdAt g j).to = (rdAt g i).fr) : tnC g i j = wdC (hdR g i) (hdR g j) := if_neg h
theorem tnC_bd (g : GraphD) (i j : Nat) : 0 ≤ tnC g i j ∧ tnC g i j ≤ 20 := by
  have := wdC_bd (hdR g i) (hdR g j)
  unfold tnC
  split <;> omega
/-- What a turn between Roads that meet costs; -1: it is forbidden. -/
noncomputable def tnB (g : GraphD) (i j : Nat) : Int := if bP (inL g.bans (i : Int) (j : Int)) = true then -1 else tnC g i j
theorem tnB_ban {g : GraphD} {i j : Nat} (h : bP (inL g.bans (i : Int) (j : Int)) = true) : tnB g i j = -1 := if_pos h
theorem tnB_ok {g : GraphD} {i j : Nat} (h : bP (inL g.bans (i : Int) (j : Int)) = false) : tnB g i j = tnC g i j := if_neg (by rw [h]; decide)
theorem tnB_bd (g : GraphD) (i j : Nat) : -1 ≤ tnB g i j ∧ tnB g i j ≤ 20 := by
  have := tnC_bd g i j
  unfold tnB
  split <;> omega
/-- What turning from one Road into another costs. -/
noncomputable def ttQ (g : GraphD) (x y : Int) : Int :=
  if bP (graphP g) = true ∧ inN g.roads.length x = true ∧ inN g.roads.length y = true ∧ (rdAt g x.toNat).to = (rdAt g y.toNat).fr then tnB g x.toNat y.toNat else -1
theorem ttQ_no {g : GraphD} {x y : Int} (h : ¬ (graphP g ∧ inN g.roads.length x = true ∧ inN g.roads.length y = true)) : ttQ g x y = -1 := by
  unfold ttQ
  rw [if_neg fun hh => h ⟨bP_out hh.1, hh.2.1, hh.2.2.1⟩]
theorem ttQ_at {g : GraphD} {i j : Nat} (hP : graphP g) (hi : i < g.roads.length) (hj : j < g.roads.length) (h : g.roads[i].to = g.roads[j].fr) : ttQ g (i : Int) (j : Int) = tnB g i j := by
  unfold ttQ
  rw [if_pos ⟨bP_true hP, inN_iff.2 ⟨by omega, by omega⟩, inN_iff.2 ⟨by omega, by omega⟩, by simpa [rdAt_eq hi, rdAt_eq hj] using h⟩]
  simp
theorem ttQ_apart {g : GraphD} {i j : Nat} (hi : i < g.roads.length) (hj : j < g.roads.length) (h : ¬ g.roads[i].to = g.roads[j].fr) : ttQ g (i : Int) (j : Int) = -1 := by
  unfold ttQ
  rw [if_neg]
  rintro ⟨_, _, _, h4⟩
  exact h (by simpa [rdAt_eq hi, rdAt_eq hj] using h4)
end Go.Proofs.YtponmbjflablcaaDoor
