/-
  Which roads may follow one: plain mathematics.
-/
import Derived.Test.YtponmbjflablcaaDoorTabG
import Derived.Test.YtponmbjflablcaaDoorOwnB
namespace Go.Proofs.YtponmbjflablcaaDoor
open Go.RowKit Go.Maps

/-- Those of a row that are not forbidden behind r. -/
noncomputable def tnL (row : List Nat) (bs : List BanD) (r : Nat) : List Int := (row.filter fun (i : Nat) => !bP (inL bs (r : Int) (i : Int))).map fun (i : Nat) => (i : Int)
theorem tnL_yes {row : List Nat} {bs : List BanD} {r k : Nat} (hk : k < row.length) (h : bP (inL bs (r : Int) (row[k] : Int)) = false) : tnL (row.take (k + 1)) bs r = tnL (row.take k) bs r ++ [(row[k] : Int)] := by
  unfold tnL
  rw [List.take_succ_eq_append_getElem hk, List.filter_append, List.map_append]
  simp [h]
theorem tnL_no {row : List Nat} {bs : List BanD} {r k : Nat} (hk : k < row.length) (h : bP (inL bs (r : Int) (row[k] : Int)) = true) : tnL (row.take (k + 1)) bs r = tnL (row.take k) bs r := by
  unfold tnL
  rw [List.take_succ_eq_append_getElem hk, List.filter_append, List.map_append]
  simp [h]
theorem tnL_len (row : List Nat) (bs : List BanD) (r : Nat) : (tnL row bs r).length ≤ row.length := by
  unfold tnL
  rw [List.length_map]
  exact List.length_filter_le _ _
/-- The Roads that may follow the x-th one. -/
noncomputable def trnQ (g : GraphD) (x : Int) : List Int :=
  if bP (graphP g) = true ∧ inN g.roads.length x = true then tnL (bgF g.roads g.roads.length true ((g.roads[x.toNat]?).elim 0 fun r => r.to.toNat)) g.bans x.toNat else []
theorem trnQ_at {g : GraphD} {r p : Nat} (hP : graphP g) (hr : r < g.roads.length) (hp : g.roads[r].to = (p : Int)) : trnQ g (r : Int) = tnL (bgF g.roads g.roads.length true p) g.bans r := by
  unfold trnQ
  rw [if_pos ⟨bP_true hP, inN_iff.2 ⟨by omega, by omega⟩⟩]
  simp [hr, hp]
theorem trnQ_no {g : GraphD} {x : Int} (h : ¬ (graphP g ∧ inN g.roads.length x = true)) : trnQ g x = [] := by
  unfold trnQ
  rw [if_neg fun hh => h ⟨bP_out hh.1, hh.2⟩]
theorem trnQ_len (g : GraphD) (x : Int) : (trnQ g x).length ≤ 8000 := by
  by_cases h : graphP g ∧ inN g.roads.length x = true
  · unfold trnQ
    rw [if_pos ⟨bP_true h.1, h.2⟩]
    exact Nat.le_trans (tnL_len _ _ _) (Nat.le_trans (bgF_len _ _ _ _) h.1.1.2.1)
  · rw [trnQ_no h]; simp
/-- The same, road by road: the first k. -/
noncomputable def tnT (g : GraphD) (r p : Nat) (k : Nat) : List Int := tnL (bgF g.roads k true p) g.bans r
theorem tnT_zero (g : GraphD) (r p : Nat) : tnT g r p 0 = [] := by unfold tnT tnL; rw [bgF_zero]; rfl
theorem tnT_yes {g : GraphD} {r p k : Nat} (hk : k < g.roads.length) (h1 : g.roads[k].fr = (p : Int)) (h2 : bP (inL g.bans (r : Int) (k : Int)) = false) : tnT g r p (k + 1) = tnT g r p k ++ [(k : Int)] := by
  unfold tnT tnL
  rw [bgF_succ hk, if_pos (by simpa [endR] using h1), List.filter_append, List.map_append]
  simp [h2]
theorem tnT_ban {g : GraphD} {r p k : Nat} (hk : k < g.roads.length) (h2 : bP (inL g.bans (r : Int) (k : Int)) = true) : tnT g r p (k + 1) = tnT g r p k := by
  unfold tnT tnL
  rw [bgF_succ hk]
  split
  · rw [List.filter_append, List.map_append]; simp [h2]
  · rfl
theorem tnT_no {g : GraphD} {r p k : Nat} (hk : k < g.roads.length) (h1 : ¬ g.roads[k].fr = (p : Int)) : tnT g r p (k + 1) = tnT g r p k := by
  unfold tnT tnL
  rw [bgF_succ hk, if_neg (by simpa [endR] using h1)]
theorem tnT_len (g : GraphD) (r p k : Nat) : (tnT g r p k).length ≤ k := Nat.le_trans (tnL_len _ _ _) (bgF_len _ _ _ _)
end Go.Proofs.YtponmbjflablcaaDoor
