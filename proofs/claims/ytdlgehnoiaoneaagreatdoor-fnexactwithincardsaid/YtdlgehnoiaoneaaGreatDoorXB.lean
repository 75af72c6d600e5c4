/-
  FirstRoads in the model: contract, once that of the model's search is known.
  The model's search comes to its end.
  What Reach tells: bounds.
-/
import Derived.Test.YtdlgehnoiaoneaaGreatDoorGQ
import Derived.Test.YtdlgehnoiaoneaaGreatDoorGS
import Derived.Test.YtdlgehnoiaoneaaGreatDoorGI
import Derived.Test.YtdlgehnoiaoneaaGreatDoorRtM
namespace Go.Proofs.YtdlgehnoiaoneaaGreatDoor
open Go.RowKit Go.Maps

theorem l10SpotIs_r (i : Int) (a0 : Option Addr) (n0 c0 : Nat) (a1 : Option Addr) (n1 c1 : Nat) (a2 : Option Addr) (n2 c2 : Nat) (r : Bool) (w : World) (h : inN n0 i = r) :
  Calls Tryz.prog 17 #[gphV a0 n0 c0 a1 n1 c1 a2 n2 c2, .int .i64 i] w fun e w' => e = .returned (.bool r) ∧ Bel w w' := by
 have hB := bel_alloc (Bel.refl w) (.cells #[.slice a0 n0 c0, .slice a1 n1 c1, .slice a2 n2 c2] 34)
 by_cases h0 : 0 ≤ i
 ·by_cases h1 : i < (n0 : Int)
  ·obtain rfl : r = true := by rw [← h]; exact inN_iff.2 ⟨h0, h1⟩
   clear h
   go_enter Tryz.func17, Tryz.ntmps17
   go_wp2
   go_ret
   exact ⟨rfl, hB⟩
  ·obtain rfl : r = false := by rw [← h]; exact inN_not.2 (by omega)
   clear h
   go_enter Tryz.func17, Tryz.ntmps17
   go_wp2
   go_ret
   exact ⟨rfl, hB⟩
 ·obtain rfl : r = false := by rw [← h]; exact inN_not.2 (by omega)
  clear h
  go_enter Tryz.func17, Tryz.ntmps17
  go_wp2
  go_ret
  exact ⟨rfl, hB⟩

end Go.Proofs.YtdlgehnoiaoneaaGreatDoor

namespace Go.Proofs.YtdlgehnoiaoneaaGreatDoor
open Go.RowKit

theorem exists_min (f : Nat → Cst) : ∀ (l : List Nat), l ≠ [] → ∃ x ∈ l, ∀ y ∈ l, (f x).le (f y)
 | [], h => absurd rfl h
 | [a], _ => ⟨a, List.mem_singleton.2 rfl, fun y hy => by rw [List.mem_singleton.1 hy]; exact Cst.le_refl _⟩
 | a :: b :: l, _ => by
  obtain ⟨x, hx, hm⟩ := exists_min f (b :: l) (by simp)
  by_cases h : (f a).le (f x)
  ·refine ⟨a, List.mem_cons.2 (.inl rfl), fun y hy => ?_⟩
   rcases List.mem_cons.1 hy with rfl | hy
   ·exact Cst.le_refl _
   ·exact Cst.le_trans h (hm y hy)
  ·refine ⟨x, List.mem_cons.2 (.inr hx), fun y hy => ?_⟩
   rcases List.mem_cons.1 hy with rfl | hy
   ·exact Cst.lt_le (by
     have := fun hh => h (Cst.not_lt.1 hh)
     exact Classical.byContradiction this)
   ·exact hm y hy
/-- The model's search comes to its end. -/
theorem MJ.ends {S : SrS} {g : GraphD} {st : Int} (hg : graphP g) (hl : g.roads.length = S.n1) : ∀ (n : Nat) (D : List Nat) (s : Mst), MJ S g st D s → S.n1 - D.length ≤ n → ∃ D' s', MJ S g st D' s' ∧ s'.op = []
 | n, D, s, h, hn => by
  by_cases h0 : s.op = []
  ·exact ⟨D, s, h, h0⟩
  ·obtain ⟨x, hx, hmin⟩ := exists_min (fun y => cAt s.dl y) s.op h0
   obtain ⟨k, hk, rfl⟩ := List.getElem_of_mem hx
   obtain ⟨hxn, hxD, _⟩ := (h.opn s.op[k]).1 hx
   obtain ⟨l0, l1⟩ := plcB_bd hg hl hxn
   have h2 := h.next hg hl (popL_perm hk) hmin (p := (plcB S.back g s.op[k]).toNat) (by omega)
   have hd := h2.dl'
   simp only [List.length_cons] at hd
   cases n with
   | zero => omega
   | succ n => exact MJ.ends hg hl n _ _ h2 (by simp only [List.length_cons]; omega)
end Go.Proofs.YtdlgehnoiaoneaaGreatDoor

namespace Go.Proofs.YtdlgehnoiaoneaaGreatDoor
open Go.RowKit

theorem rcQ_in (g : GraphD) (x : Int) : ∀ y ∈ rcQ g x, In64 y := by
 intro y hy
 by_cases h : graphP g ∧ inN g.places.length x = true
 ·rw [rcQ_yes h.1 h.2] at hy
  unfold rcL at hy
  obtain ⟨q, _, rfl⟩ := List.mem_map.1 hy
  obtain ⟨D, s, hJ, h0⟩ := MJ.ends (S := mkS g.roads.length false) (st := x) h.1 rfl _ _ _ (MJ.start h.1 rfl) (Nat.le_refl _)
  have hl : lstD g.roads.length false g x = mO g.roads.length s.dl := lstD_eq (S := mkS g.roads.length false) (hJ.least h0).1 (hJ.least h0).2
  rw [hl]
  have hN : g.roads.length ≤ 8000 := h.1.1.2.1
  have hD : D.length ≤ g.roads.length := hJ.dl'
  unfold rcV
  split
  ·exact ⟨by decide, by decide⟩
  ·cases hm : miF (mO g.roads.length s.dl) (bgF g.roads g.roads.length false q) with
   | none => exact ⟨by decide, by decide⟩
   | some b =>
    have hb := hJ.cb _ _ (miF_mem (x := b.1) (c := b.2) hm).2
    exact ⟨by show _ ≤ b.2.t; omega, by show b.2.t ≤ _; omega⟩
 ·rw [rcQ_no h] at hy
  exact nomatch hy
theorem rcQ_len (g : GraphD) (x : Int) : (rcQ g x).length ≤ 8000 := by
 by_cases h : graphP g ∧ inN g.places.length x = true
 ·rw [rcQ_yes h.1 h.2, rcL_len]
  have := h.1.1.1
  omega
 ·rw [rcQ_no h]
  exact Nat.zero_le _
end Go.Proofs.YtdlgehnoiaoneaaGreatDoor
