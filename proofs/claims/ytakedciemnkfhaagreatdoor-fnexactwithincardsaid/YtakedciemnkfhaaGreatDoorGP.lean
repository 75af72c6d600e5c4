/-
  What FirstRoads answers: the least times, out of the least costs: mathematics.
  FirstRoads in the program: contract.
-/
import Derived.Test.YtakedciemnkfhaaGreatDoorMbM
import Derived.Test.YtakedciemnkfhaaGreatDoorGF
import Derived.Test.YtakedciemnkfhaaGreatDoorSchS
import Derived.Test.YtakedciemnkfhaaGreatDoorStrI
namespace Go.Proofs.YtakedciemnkfhaaGreatDoor

/-- A search of so many Roads, forwards or backwards: all that its steps depend on. -/
def mkS (n : Nat) (back : Bool) : SrS := ⟨none, 0, 0, none, n, 0, none, 0, 0, 0, 0, 0, 0, back, 0⟩
open Classical in
/-- The least costs. -/
noncomputable def lstD (n : Nat) (back : Bool) (g : GraphD) (st : Int) : Nat → Option Cst :=
 if h : ∃ d, Least (IB (mkS n back) g st) (WB (mkS n back) g) d ∧ Counted d then Classical.choose h else fun _ => none
theorem lstD_eq {S : SrS} {g : GraphD} {st : Int} {d : Nat → Option Cst} (h : Least (IB S g st) (WB S g) d) (hc : Counted d) : lstD S.n1 S.back g st = d := by
 have hx : ∃ d, Least (IB (mkS S.n1 S.back) g st) (WB (mkS S.n1 S.back) g) d ∧ Counted d := ⟨d, h, hc⟩
 unfold lstD
 rw [dif_pos hx]
 have hs := Classical.choose_spec hx
 exact least_unique hs.1 hs.2 h hc
/-- A cost, told. -/
def tO : Option Cst → Int
 | none => -1
 | some c => c.t
/-- The times of all Roads, told. -/
noncomputable def frL (n : Nat) (back : Bool) (g : GraphD) (st : Int) : List Int := (List.range n).map fun i => tO (lstD n back g st i)
theorem frL_len (n : Nat) (back : Bool) (g : GraphD) (st : Int) : (frL n back g st).length = n := by simp [frL]
theorem frL_at {n : Nat} {back : Bool} {g : GraphD} {st : Int} {i : Nat} (h : i < (frL n back g st).length) : (frL n back g st)[i] = tO (lstD n back g st i) := by simp [frL]
theorem SJ.told {S : SrS} {g : GraphD} {st : Int} {D : List Nat} {s : Sig} {Ls : List (List Nat)} (h : SJ S g st D s Ls) (h0 : s.pd = []) {i : Nat} (hi : i < S.n1) : tldC (cAt s.bl i) = tO (lstD S.n1 S.back g st i) := by
 rw [lstD_eq (h.least h0).1 (h.least h0).2]
 unfold tldC dO
 by_cases hn : (cAt s.bl i).t = noT
 ·rw [if_pos hn, if_neg (fun hh => hh.2 hn)]
  rfl
 ·rw [if_neg hn, if_pos ⟨hi, hn⟩]
  rfl
theorem MJ.told {S : SrS} {g : GraphD} {st : Int} {D : List Nat} {s : Mst} (h : MJ S g st D s) (h0 : s.op = []) {i : Nat} (hi : i < S.n1) : (cAt s.dl i).t = tO (lstD S.n1 S.back g st i) := by
 rw [lstD_eq (h.least h0).1 (h.least h0).2]
 unfold mO
 by_cases hn : 0 ≤ (cAt s.dl i).t
 ·rw [if_pos ⟨hi, hn⟩]
  rfl
 ·rw [if_neg (fun hh => hn hh.2), h.neg i hi (by omega)]
  rfl
theorem MJ.list {S : SrS} {g : GraphD} {st : Int} {D : List Nat} {s : Mst} (h : MJ S g st D s) (h0 : s.op = []) : s.dl.map Cst.t = frL S.n1 S.back g st := by
 apply List.ext_getElem
 ·rw [List.length_map, h.len, frL_len]
 ·intro i h1 h2
  have hi : i < S.n1 := by rw [frL_len] at h2; exact h2
  rw [frL_at, ← h.told h0 hi, List.getElem_map, cAt_eq (by rw [h.len]; exact hi)]
theorem SJ.tb {S : SrS} {g : GraphD} {st : Int} {D : List Nat} {s : Sig} {Ls : List (List Nat)} (h : SJ S g st D s Ls) (hl : S.n1 ≤ 8000) {i : Nat} (hi : i < S.n1) : -1 ≤ tldC (cAt s.bl i) ∧ tldC (cAt s.bl i) ≤ 10000000000 := by
 unfold tldC
 split
 ·omega
 ·rename_i hn
  have := h.cb i _ (dO_some.2 ⟨hi, rfl, hn⟩)
  have := h.dl
  omega
/-- What FirstRoads answers. -/
noncomputable def frQ (g : GraphD) (x : Int) : List Int := if bP (graphP g) = true ∧ inN g.places.length x = true then frL g.roads.length true g x else []
theorem frQ_no {g : GraphD} {x : Int} (h : ¬ (graphP g ∧ inN g.places.length x = true)) : frQ g x = [] := by
 unfold frQ
 rw [if_neg (fun hh => h ⟨bP_out hh.1, hh.2⟩)]
theorem frQ_yes {g : GraphD} {x : Int} (h : graphP g) (hx : inN g.places.length x = true) : frQ g x = frL g.roads.length true g x := by
 unfold frQ
 rw [if_pos ⟨bP_true h, hx⟩]
end Go.Proofs.YtakedciemnkfhaaGreatDoor

namespace Go.Proofs.YtakedciemnkfhaaGreatDoor
open Go.RowKit Go.Maps

set_option maxHeartbeats 1000000 in
theorem searchBack_any (S : SrS) (lo nb : Nat) (V : Bool → Nat → Value) (g : GraphD) (b1 : List Nat) (p : Nat) (w : World) (hT : Tabs lo w (fun t => cond t S.Bb S.Be) S.n0 V (bgF g.roads S.n1)) (hC : Stc w.heap.size S g b1 nb w) (hn0 : g.places.length = S.n0) (hp : p < S.n0) (hst : S.start = (p : Int)) (hb : S.back = true) :
  Calls Tryz.prog 68 #[.agg #[.slice S.a0 S.n0 S.c0, .slice S.a1 S.n1 S.c1, .slice S.a2 S.n2 S.c2, .slice (some ⟨S.Bb, 0, none⟩) S.n0 S.n0, .slice (some ⟨S.Be, 0, none⟩) S.n0 S.n0, .map (some S.M), .slice (some ⟨S.Wd, 0, none⟩) S.n1 S.n1], .int .i64 S.start] w fun e w' => BegOut w S g e w' := by
 obtain ⟨W, HW⟩ : ∃ W, Hid (W = w.alloc (.cells #[.slice S.a0 S.n0 S.c0, .slice S.a1 S.n1 S.c1, .slice S.a2 S.n2 S.c2, .slice (some ⟨S.Bb, 0, none⟩) S.n0 S.n0, .slice (some ⟨S.Be, 0, none⟩) S.n0 S.n0, .map (some S.M), .slice (some ⟨S.Wd, 0, none⟩) S.n1 S.n1] 111)) := ⟨_, (rfl : w.alloc (.cells #[.slice S.a0 S.n0 S.c0, .slice S.a1 S.n1 S.c1, .slice S.a2 S.n2 S.c2, .slice (some ⟨S.Bb, 0, none⟩) S.n0 S.n0, .slice (some ⟨S.Be, 0, none⟩) S.n0 S.n0, .map (some S.M), .slice (some ⟨S.Wd, 0, none⟩) S.n1 S.n1] 111) = _)⟩
 have hBW : Bel w W := by rw [HW.out]; exact bel_alloc (Bel.refl _) _
 have HBW : Hid (Bel w W) := hBW
 have XW : Blk W w.heap.size [.slice S.a0 S.n0 S.c0, .slice S.a1 S.n1 S.c1, .slice S.a2 S.n2 S.c2, .slice (some ⟨S.Bb, 0, none⟩) S.n0 S.n0, .slice (some ⟨S.Be, 0, none⟩) S.n0 S.n0, .map (some S.M), .slice (some ⟨S.Wd, 0, none⟩) S.n1 S.n1] := by rw [HW.out]; exact Blk.new w [.slice S.a0 S.n0 S.c0, .slice S.a1 S.n1 S.c1, .slice S.a2 S.n2 S.c2, .slice (some ⟨S.Bb, 0, none⟩) S.n0 S.n0, .slice (some ⟨S.Be, 0, none⟩) S.n0 S.n0, .map (some S.M), .slice (some ⟨S.Wd, 0, none⟩) S.n1 S.n1] _
 have u0 : W.cell? ⟨w.heap.size, 0, none⟩ = some (.slice S.a0 S.n0 S.c0) := XW.cell 0 (by simp)
 have u1 : W.cell? ⟨w.heap.size, 1, none⟩ = some (.slice S.a1 S.n1 S.c1) := XW.cell 1 (by simp)
 have u2 : W.cell? ⟨w.heap.size, 2, none⟩ = some (.slice S.a2 S.n2 S.c2) := XW.cell 2 (by simp)
 have u3 : W.cell? ⟨w.heap.size, 3, none⟩ = some (.slice (some ⟨S.Bb, 0, none⟩) S.n0 S.n0) := XW.cell 3 (by simp)
 have u4 : W.cell? ⟨w.heap.size, 4, none⟩ = some (.slice (some ⟨S.Be, 0, none⟩) S.n0 S.n0) := XW.cell 4 (by simp)
 have u5 : W.cell? ⟨w.heap.size, 5, none⟩ = some (.map (some S.M)) := XW.cell 5 (by simp)
 have u6 : W.cell? ⟨w.heap.size, 6, none⟩ = some (.slice (some ⟨S.Wd, 0, none⟩) S.n1 S.n1) := XW.cell 6 (by simp)
 have ul := XW.lt
 have cB := begin_any S lo nb V g b1 p S.Be W (hT.bel hBW) ((hC.bel hBW).mono hBW.out.size) hn0 hp hst (by rw [hb]; rfl)
 rw [hb] at cB
 have HcB : Hid (Calls Tryz.prog 93 #[.agg #[.slice S.a0 S.n0 S.c0, .slice S.a1 S.n1 S.c1, .slice S.a2 S.n2 S.c2, .slice (some ⟨S.Bb, 0, none⟩) S.n0 S.n0, .slice (some ⟨S.Be, 0, none⟩) S.n0 S.n0, .map (some S.M), .slice (some ⟨S.Wd, 0, none⟩) S.n1 S.n1], .bool true, .slice (some ⟨S.Be, 0, none⟩) S.n0 S.n0, .int .i64 S.start] W fun e w' => BegOut W S g e w') := cB
 clear cB hT hC hst hb hBW XW hn0 hp
 go_enter Tryz.func68, Tryz.ntmps68
 go_wp2_with fail
 rw [← HW.out]
 refine HcB.out.mono ?_
 rintro e w2 ⟨⟨base, P, vl, s, Ls, D, rfl, h1, h2, h3, h4, h5⟩⟩
 have HE : Hid (BegOut w S g (.returned (.pointer (some ⟨P, 0, none⟩))) w2) := ⟨base, P, vl, s, Ls, D, rfl, h1, h2, h3, Nat.le_trans HBW.out.out.size h4, bel_step HBW.out h5⟩
 clear h1 h2 h3 h4 h5 u0 u1 u2 u3 u4 u5 u6 HcB
 go_wp2
 go_ret
 exact HE.out

/-- The first k of the told times, noughts behind. -/
def tkV (l : List Int) (k n : Nat) : List Value := (List.range n).map fun i => .int .i64 (if i < k then l[i]?.getD 0 else 0)
theorem tkV_len (l : List Int) (k n : Nat) : (tkV l k n).length = n := by simp [tkV]
theorem tkV_set {l : List Int} {k n : Nat} (hk : k < n) (hl : l.length = n) : (tkV l k n).set k (.int .i64 (l[k]'(by omega))) = tkV l (k + 1) n := by
 apply List.ext_getElem
 ·simp [tkV]
 ·intro i h1 h2
  rw [tkV_len] at h2
  by_cases e : i = k
  ·subst e
   simp [tkV, hl, hk]
  ·rw [List.getElem_set_ne (fun h => e h.symm)]
   simp only [tkV, List.getElem_map, List.getElem_range]
   by_cases h : i < k
   ·rw [if_pos h, if_pos (by omega)]
   ·rw [if_neg h, if_neg (by omega)]
theorem tkV_zero (l : List Int) (n : Nat) : tkV l 0 n = List.replicate n (.int .i64 0) := by
 apply List.ext_getElem
 ·simp [tkV]
 ·intro i h1 h2
  simp [tkV]
theorem tkV_all {l : List Int} {n : Nat} (hl : l.length = n) : tkV l n n = intsV l := by
 apply List.ext_getElem
 ·simp [tkV, intsV, hl]
 ·intro i h1 h2
  have hi : i < n := by rw [tkV_len] at h1; exact h1
  simp [tkV, intsV, hl, hi]

end Go.Proofs.YtakedciemnkfhaaGreatDoor
