/-
  Tags and Parts, marked: contracts.
  Places, roads, bans and graphs, marked, and their marks held: what is written, and that it is found again: contracts.
-/
import Derived.Test.YtdlgehnoiaoneaaGreatDoorGT
import Derived.Deep.RegionHeld3
namespace Go.Proofs.YtdlgehnoiaoneaaGreatDoor
open Go.RowKit Go.Maps

end Go.Proofs.YtdlgehnoiaoneaaGreatDoor

namespace Go.Proofs.YtdlgehnoiaoneaaGreatDoor
open Go.RowKit Go.Maps

/-- The first m cells are marked. -/
structure Mkd (V : Nat → Value) (w : World) (b off N m : Nat) : Prop where
  lt : b < w.heap.size
  done : ∀ p, p < m → w.cell? ⟨b, off + p, none⟩ = some (V p)
  there : ∀ p, p < N → ∃ v, w.cell? ⟨b, off + p, none⟩ = some v
  free : ∀ j, w.frozen? ⟨b, j, none⟩ = false
theorem Mkd.set {V : Nat → Value} {w : World} {b off N m : Nat} (h : Mkd V w b off N m) (o : Nat) (v : Value) (hm : m < N) (ho : o = off + m) (hv : v = V m) : Mkd V (w.setCell ⟨b, o, none⟩ v) b off N (m + 1) := by
  subst ho
  refine ⟨by simpa [World.setCell] using h.lt, fun p hp => ?_, fun p hp => ?_, fun j => by rw [World.frozen?_setCell]; exact h.free j⟩
  · by_cases e : p = m
    · subst e
      obtain ⟨u, hu⟩ := h.there p hm
      rw [← hv]; exact World.cell?_setCell_same _ _ _ hu
    · rw [World.cell?_setCell_other _ _ _ _ (fun e2 => e (by have := congrArg Addr.off e2; simp at this; omega))]
      exact h.done p (by omega)
  · by_cases e : p = m
    · subst e
      obtain ⟨u, hu⟩ := h.there p hm
      exact ⟨_, World.cell?_setCell_same _ _ _ hu⟩
    · rw [World.cell?_setCell_other _ _ _ _ (fun e2 => e (by have := congrArg Addr.off e2; simp at this; omega))]
      exact h.there p hp
theorem Mkd.bel {V : Nat → Value} {w w' : World} {b off N m : Nat} (h : Mkd V w b off N m) (hb : Bel w w') : Mkd V w' b off N m :=
  ⟨bel_lt hb h.lt, fun p hp => bel_cellM hb h.lt (h.done p hp), fun p hp => by obtain ⟨u, hu⟩ := h.there p hp; exact ⟨u, bel_cellM hb h.lt hu⟩, fun j => by rw [hb.out.frozen (p := ⟨b, j, none⟩) h.lt]; exact h.free j⟩
/-- A slice of N marked cells. -/
def MkS (V : Nat → Value) (w : World) (a : Option Addr) (N : Nat) (bs : List Nat) : Prop := N = 0 ∨ ∃ b off, a = some ⟨b, off, none⟩ ∧ b ∈ bs ∧ b < w.heap.size ∧ ∀ p, p < N → w.cell? ⟨b, off + p, none⟩ = some (V p)
theorem MkS.bel {V : Nat → Value} {w w' : World} {a : Option Addr} {N : Nat} {bs : List Nat} (h : MkS V w a N bs) (hb : Bel w w') : MkS V w' a N bs :=
  h.imp id fun ⟨b, off, e, hm, hl, hc⟩ => ⟨b, off, e, hm, bel_lt hb hl, fun p hp => bel_cellM hb hl (hc p hp)⟩
theorem MkS.onl {V : Nat → Value} {w w' : World} {a : Option Addr} {N : Nat} {bs cs : List Nat} (h : MkS V w a N bs) (ho : Onl cs w w') (hd : ∀ x ∈ bs, x ∉ cs) : MkS V w' a N bs :=
  h.imp id fun ⟨b, off, e, hm, hl, hc⟩ => ⟨b, off, e, hm, Nat.lt_of_lt_of_le hl ho.size, fun p hp => by rw [OnlF.cell ho hl (hd b hm)]; exact hc p hp⟩
/-- Marks of numbers; marks of Roads. -/
def mkV (k p : Nat) : Value := .int .i64 ((k + p : Nat) : Int)
end Go.Proofs.YtdlgehnoiaoneaaGreatDoor
