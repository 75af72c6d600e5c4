/-
  Contracts of the question whether Ids ascend, for nodes, ways and areas: for every list.
  Contracts: what is asked of every way and of every area; at which places Ids stand.
  Contract of the question whether a chart can be: for every chart.
  Rows of records that the call has built by append: how they are read.
-/
import Derived.Test.YtdlgehnoiaoneaaGreatDoorGB
import Derived.Deep.LoopGhost
import Derived.Test.YtdlgehnoiaoneaaGreatDoorGC
import Derived.Laws.OwnMore
import Derived.Laws.AppendOwnNone
import Derived.Deep.Slices
namespace Go.Proofs.YtdlgehnoiaoneaaGreatDoor
open Go.RowKit

end Go.Proofs.YtdlgehnoiaoneaaGreatDoor

namespace Go.Proofs.YtdlgehnoiaoneaaGreatDoor
open Go.RowKit Go.Maps

end Go.Proofs.YtdlgehnoiaoneaaGreatDoor

namespace Go.Proofs.YtdlgehnoiaoneaaGreatDoor
open Go.RowKit Go.Maps

/-- What is asked of a map, but for how many there are. -/
structure ChartP (ns : List NodeD) (ws : List WayD) (rs : List AreaD) (nn nw na : Nat) : Prop where
  b1 : AscP nn (nId ns) (nTg ns)
  b2 : AscP nw (wId ws) (wTg ws)
  b3 : AscP na (aId rs) (aTg rs)
  b4 : ∀ i, i < nn → nPk ns i = true
  b5 : ∀ i (h : i < ws.length), WayP nn (nId ns) ws[i].nodes
  b6 : ∀ i (h : i < rs.length), AreaP nw (wId ws) rs[i].parts

end Go.Proofs.YtdlgehnoiaoneaaGreatDoor

namespace Go.Proofs.YtdlgehnoiaoneaaGreatDoor
open Go.RowKit Go.Maps

/-- The cells of the first k records. -/
def recs (R : Nat → List Value) (k : Nat) : List Value := (List.range k).flatMap R
theorem recs_succ (R : Nat → List Value) (k : Nat) : recs R (k + 1) = recs R k ++ R k := by simp [recs, List.range_succ]
theorem recs_len {R : Nat → List Value} {q : Nat} (h : ∀ i, (R i).length = q) : ∀ k, (recs R k).length = k * q
  | 0 => by simp [recs]
  | k + 1 => by rw [recs_succ, List.length_append, recs_len h k, h k, Nat.add_mul, Nat.one_mul]
theorem recs_at {R : Nat → List Value} {q : Nat} (h : ∀ i, (R i).length = q) {i j : Nat} (hj : j < q) : ∀ k, i < k → (recs R k)[i * q + j]? = (R i)[j]?
  | 0, hk => absurd hk (Nat.not_lt_zero _)
  | k + 1, hk => by
    rw [recs_succ]
    by_cases e : i = k
    · subst e
      rw [List.getElem?_append_right (by rw [recs_len h]; omega), recs_len h]
      congr 1; omega
    · have h1 : i + 1 ≤ k := by omega
      have h2 : i * q + q ≤ k * q := by have := Nat.mul_le_mul_right q h1; rw [Nat.add_mul, Nat.one_mul] at this; exact this
      rw [List.getElem?_append_left (by rw [recs_len h]; omega)]
      exact recs_at h hj k (by omega)

theorem own_kept {w w' : World} {base : Nat} {e : TypeId} {q n : Nat} {v : Value} {xs : List Value} {C : Nat} (h : w.ownsRow base e q v n xs) (hg : w.grownBy w' (some C)) (hC : C < base) : w'.ownsRow base e q v n xs := by
  refine h.kept hg ?_
  by_cases hv : v.ownBlock = none
  · exact .inl hv
  · refine .inr fun e => ?_
    have := (h.lt C e).1
    omega
theorem own_bel {w w' : World} {base : Nat} {e : TypeId} {q n : Nat} {v : Value} {xs : List Value} (h : w.ownsRow base e q v n xs) (hb : Bel w w') : w'.ownsRow base e q v n xs := by
  obtain ⟨h1, h2⟩ := h
  refine ⟨h1, ?_⟩
  rcases h2 with h2 | ⟨g, cap, cur, e1, e2, e3, e4⟩
  · exact .inl h2
  · have hlt : g < w.heap.size := by
      rcases Nat.lt_or_ge g w.heap.size with h | h
      · exact h
      · rw [Array.getElem?_eq_none h] at e3; cases e3
    exact .inr ⟨g, cap, cur, e1, e2, by rw [hb.out.block g hlt]; exact e3, e4⟩

end Go.Proofs.YtdlgehnoiaoneaaGreatDoor
