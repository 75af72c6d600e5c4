/-
  What FirstRoads answers: the least times, out of the least costs: mathematics.
  FirstRoads in the program: contract.
-/
import Derived.Test.YtdlgehnoiaoneaaGreatDoorMbM
import Derived.Test.YtdlgehnoiaoneaaGreatDoorGF
import Derived.Test.YtdlgehnoiaoneaaGreatDoorSchS
import Derived.Test.YtdlgehnoiaoneaaGreatDoorStrI
namespace Go.Proofs.YtdlgehnoiaoneaaGreatDoor

/-- A search of so many Roads, forwards or backwards: all that its steps depend on. -/
def mkS (n : Nat) (back : Bool) : SrS := ⟨none, 0, 0, none, n, 0, none, 0, 0, 0, 0, 0, 0, back, 0⟩
open Classical in
/-- The least costs. -/
noncomputable def lstD (n : Nat) (back : Bool) (g : GraphD) (st : Int) : Nat → Option Cst :=
  if h : ∃ d, Least (IB (mkS n back) g st) (WB (mkS n back) g) d ∧ Counted d then Classical.choose h else fun _ => none
theorem lstD_eq {S : SrS} {g : GraphD} {st : Int} {d : Nat → Option Cst} (h : Least (IB S g st) (WB S g) d) (hc : Counted d) : lstD S.n1 S.back g st = d := by
  have hx : ∃ d, Least (IB (mkS S.n1 S.back) g st) (WB (mkS S.n1 S.back) g) d ∧ Counted d := ⟨d, h, hc⟩
  unfold lstD
  rw [dif_pos hx]
  have hs := Classical.choose_spec hx
  exact least_unique hs.1 hs.2 h hc
/-- A cost, told. -/
def tO : Option Cst → Int
  | none => -1
  | some c => c.t
/-- The times of all Roads, told. -/
noncomputable def frL (n : Nat) (back : Bool) (g : GraphD) (st : Int) : List Int := (List.range n).map fun i => tO (lstD n back g st i)
theorem frL_len (n : Nat) (back : Bool) (g : GraphD) (st : Int) : (frL n back g st).length = n := by simp [frL]
theorem frL_at {n : Nat} {back : Bool} {g : GraphD} {st : Int} {i : Nat} (h : i < (frL n back g st).length) : (frL n back g st)[i] = tO (lstD n back g st i) := by simp [frL]
theorem SJ.told {S : SrS} {g : GraphD} {st : Int} {D : List Nat} {s : Sig} {Ls : List (List Nat)} (h : SJ S g st D s Ls) (h0 : s.pd = []) {i : Nat} (hi : i < S.n1) : tldC (cAt s.bl i) = tO (lstD S.n1 S.back g st i) := by
  rw [lstD_eq (h.least h0).1 (h.least h0).2]
  unfold tldC dO
  by_cases hn : (cAt s.bl i).t = noT
  · rw [if_pos hn, if_neg (fun hh => hh.2 hn)]
    rfl
  · rw [if_neg hn, if_pos ⟨hi, hn⟩]
    rfl
theorem MJ.told {S : SrS} {g : GraphD} {st : Int} {D : List Nat} {s : Mst} (h : MJ S g st D s) (h0 : s.op = []) {i : Nat} (hi : i < S.n1) : (cAt s.dl i).t = tO (lstD S.n1 S.back g st i) := by
  rw [lstD_eq (h.least h0).1 (h.least h0).2]
  unfold mO
  by_cases hn : 0 ≤ (cAt s.dl i).t
  · rw [if_pos ⟨hi, hn⟩]
    rfl
  · rw [if_neg (fun hh => hn hh.2), h.neg i hi (by omega)]
    rfl
theorem MJ.list {S : SrS} {g : GraphD} {st : Int} {D : List Nat} {s : Mst} (h : MJ S g st D s) (h0 : s.op = []) : s.dl.map Cst.t = frL S.n1 S.back g st := by
  apply List.ext_getElem
  · rw [List.length_map, h.len, frL_len]
  · intro i h1 h2
    have hi : i < S.n1 := by rw [frL_len] at h2; exact h2
    rw [frL_at, ← h.told h0 hi, List.getElem_map, cAt_eq (by rw [h.len]; exact hi)]
end Go.Proofs.YtdlgehnoiaoneaaGreatDoor

namespace Go.Proofs.YtdlgehnoiaoneaaGreatDoor
open Go.RowKit Go.Maps

/-- The first k of the told times, noughts behind. -/
def tkV (l : List Int) (k n : Nat) : List Value := (List.range n).map fun i => .int .i64 (if i < k then l[i]?.getD 0 else 0)
theorem tkV_len (l : List Int) (k n : Nat) : (tkV l k n).length = n := by simp [tkV]
theorem tkV_set {l : List Int} {k n : Nat} (hk : k < n) (hl : l.length = n) : (tkV l k n).set k (.int .i64 (l[k]'(by omega))) = tkV l (k + 1) n := by
  apply List.ext_getElem
  · simp [tkV]
  · intro i h1 h2
    rw [tkV_len] at h2
    by_cases e : i = k
    · subst e
      simp [tkV, hl, hk]
    · rw [List.getElem_set_ne (fun h => e h.symm)]
      simp only [tkV, List.getElem_map, List.getElem_range]
      by_cases h : i < k
      · rw [if_pos h, if_pos (by omega)]
      · rw [if_neg h, if_neg (by omega)]
theorem tkV_zero (l : List Int) (n : Nat) : tkV l 0 n = List.replicate n (.int .i64 0) := by
  apply List.ext_getElem
  · simp [tkV]
  · intro i h1 h2
    simp [tkV]
theorem tkV_all {l : List Int} {n : Nat} (hl : l.length = n) : tkV l n n = intsV l := by
  apply List.ext_getElem
  · simp [tkV, intsV, hl]
  · intro i h1 h2
    have hi : i < n := by rw [tkV_len] at h1; exact h1
    simp [tkV, intsV, hl, hi]

end Go.Proofs.YtdlgehnoiaoneaaGreatDoor
