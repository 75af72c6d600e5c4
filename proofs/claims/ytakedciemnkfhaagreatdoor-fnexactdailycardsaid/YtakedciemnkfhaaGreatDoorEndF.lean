/-
  The model's search comes to its end; how long a path is, and which Roads it has.
-/
import Derived.Test.YtakedciemnkfhaaGreatDoorFrdS
import Derived.Test.YtakedciemnkfhaaGreatDoorGQ
import Derived.Test.YtakedciemnkfhaaGreatDoorHB
import Derived.Test.YtakedciemnkfhaaGreatDoorGW
namespace Go.Proofs.YtakedciemnkfhaaGreatDoor
open Go.RowKit

theorem exists_min (f : Nat → Cst) : ∀ (l : List Nat), l ≠ [] → ∃ x ∈ l, ∀ y ∈ l, (f x).le (f y)
 | [], h => absurd rfl h
 | [a], _ => ⟨a, List.mem_singleton.2 rfl, fun y hy => by rw [List.mem_singleton.1 hy]; exact Cst.le_refl _⟩
 | a :: b :: l, _ => by
  obtain ⟨x, hx, hm⟩ := exists_min f (b :: l) (by simp)
  by_cases h : (f a).le (f x)
  ·refine ⟨a, List.mem_cons.2 (.inl rfl), fun y hy => ?_⟩
   rcases List.mem_cons.1 hy with rfl | hy
   ·exact Cst.le_refl _
   ·exact Cst.le_trans h (hm y hy)
  ·refine ⟨x, List.mem_cons.2 (.inr hx), fun y hy => ?_⟩
   rcases List.mem_cons.1 hy with rfl | hy
   ·exact Cst.lt_le (by
     have := fun hh => h (Cst.not_lt.1 hh)
     exact Classical.byContradiction this)
   ·exact hm y hy
/-- The model's search comes to its end. -/
theorem MJ.ends {S : SrS} {g : GraphD} {st : Int} (hg : graphP g) (hl : g.roads.length = S.n1) : ∀ (n : Nat) (D : List Nat) (s : Mst), MJ S g st D s → S.n1 - D.length ≤ n → ∃ D' s', MJ S g st D' s' ∧ s'.op = []
 | n, D, s, h, hn => by
  by_cases h0 : s.op = []
  ·exact ⟨D, s, h, h0⟩
  ·obtain ⟨x, hx, hmin⟩ := exists_min (fun y => cAt s.dl y) s.op h0
   obtain ⟨k, hk, rfl⟩ := List.getElem_of_mem hx
   obtain ⟨hxn, hxD, _⟩ := (h.opn s.op[k]).1 hx
   obtain ⟨l0, l1⟩ := plcB_bd hg hl hxn
   have h2 := h.next hg hl (popL_perm hk) hmin (p := (plcB S.back g s.op[k]).toNat) (by omega)
   have hd := h2.dl'
   simp only [List.length_cons] at hd
   cases n with
   | zero => omega
   | succ n => exact MJ.ends hg hl n _ _ h2 (by simp only [List.length_cons]; omega)
theorem pthF_facts {n : Nat} {g : GraphD} {t : Int} {d : Nat → Option Cst} {s : Nat} (hL : LC n g t d) : (pthF n g d s t).roads.length ≤ 8001 ∧ ∀ x ∈ (pthF n g d s t).roads, x < n := by
 have hN : n ≤ 8000 := by rw [← hL.hl]; exact hL.hg.1.2.1
 by_cases h : (s : Int) = t
 ·unfold pthF
  rw [if_pos h]
  exact ⟨Nat.zero_le _, (fun _ h => nomatch h)⟩
 ·rw [pthF_ne h]
  cases hm : miF d (bgF g.roads n true s) with
  | none => exact ⟨Nat.zero_le _, (fun _ h => nomatch h)⟩
  | some b =>
   have hd := (miF_mem (x := b.1) (c := b.2) hm).2
   have hb := hL.bd _ _ hd
   refine ⟨?_, hL.lt _ _ _ hd (by omega)⟩
   show (chR n g d b.2.c.toNat b.1).length ≤ 8001
   rw [hL.len _ _ _ hd (by omega)]
   omega
theorem bpQ_facts (g : GraphD) (s t : Int) : (bpQ g s t).roads.length ≤ 8001 ∧ ∀ x ∈ (bpQ g s t).roads, x ≤ 10000 := by
 by_cases h : graphP g ∧ inN g.places.length s = true ∧ inN g.places.length t = true
 ·rw [bpQ_yes h.1 h.2.1 h.2.2]
  obtain ⟨D, m, hJ, h0⟩ := MJ.ends (S := mkS g.roads.length true) (st := t) h.1 rfl _ _ _ (MJ.start h.1 rfl) (Nat.le_refl _)
  have hl : lstD g.roads.length true g t = mO g.roads.length m.dl := hJ.lst h0
  rw [hl]
  have hf := pthF_facts (s := s.toNat) (hJ.lc h0 h.1 rfl)
  have hN : g.roads.length ≤ 8000 := h.1.1.2.1
  exact ⟨hf.1, fun x hx => by have := hf.2 x hx; omega⟩
 ·rw [bpQ_no h]
  exact ⟨Nat.zero_le _, (fun _ h => nomatch h)⟩

theorem dlQ_facts (g : GraphD) (l : List Int) (s t st : Int) : (dlQ g l s t st).roads.length ≤ 8001 ∧ ∀ x ∈ (dlQ g l s t st).roads, x ≤ 10000 := by
 unfold dlQ
 split
 ·exact bpQ_facts _ _ _
 ·exact ⟨Nat.zero_le _, (fun _ h => nomatch h)⟩
end Go.Proofs.YtakedciemnkfhaaGreatDoor
