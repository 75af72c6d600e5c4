/-
  What FirstRoads answers: the least times, out of the least costs: mathematics.
  FirstRoads in the program: contract.
-/
import Derived.Test.YtdjofkgmpbiofaaDoorMbM
import Derived.Test.YtdjofkgmpbiofaaDoorGF
import Derived.Test.YtdjofkgmpbiofaaDoorSchS
import Derived.Test.YtdjofkgmpbiofaaDoorStrI
namespace Go.Proofs.YtdjofkgmpbiofaaDoor

/-- A search of so many Roads, forwards or backwards: all that its steps depend on. -/
def mkS (n : Nat) (back : Bool) : SrS := ⟨none, 0, 0, none, n, 0, none, 0, 0, 0, 0, 0, 0, back, 0⟩
open Classical in
/-- The least costs. -/
noncomputable def lstD (n : Nat) (back : Bool) (g : GraphD) (st : Int) : Nat → Option Cst :=
  if h : ∃ d, Least (IB (mkS n back) g st) (WB (mkS n back) g) d ∧ Counted d then Classical.choose h else fun _ => none
theorem lstD_eq {S : SrS} {g : GraphD} {st : Int} {d : Nat → Option Cst} (h : Least (IB S g st) (WB S g) d) (hc : Counted d) : lstD S.n1 S.back g st = d := by
  have hx : ∃ d, Least (IB (mkS S.n1 S.back) g st) (WB (mkS S.n1 S.back) g) d ∧ Counted d := ⟨d, h, hc⟩
  unfold lstD
  rw [dif_pos hx]
  have hs := Classical.choose_spec hx
  exact least_unique hs.1 hs.2 h hc
/-- A cost, told. -/
def tO : Option Cst → Int
  | none => -1
  | some c => c.t
/-- The times of all Roads, told. -/
noncomputable def frL (n : Nat) (back : Bool) (g : GraphD) (st : Int) : List Int := (List.range n).map fun i => tO (lstD n back g st i)
theorem frL_len (n : Nat) (back : Bool) (g : GraphD) (st : Int) : (frL n back g st).length = n := by simp [frL]
theorem frL_at {n : Nat} {back : Bool} {g : GraphD} {st : Int} {i : Nat} (h : i < (frL n back g st).length) : (frL n back g st)[i] = tO (lstD n back g st i) := by simp [frL]
theorem SJ.told {S : SrS} {g : GraphD} {st : Int} {D : List Nat} {s : Sig} {Ls : List (List Nat)} (h : SJ S g st D s Ls) (h0 : s.pd = []) {i : Nat} (hi : i < S.n1) : tldC (cAt s.bl i) = tO (lstD S.n1 S.back g st i) := by
  rw [lstD_eq (h.least h0).1 (h.least h0).2]
  unfold tldC dO
  by_cases hn : (cAt s.bl i).t = noT
  · rw [if_pos hn, if_neg (fun hh => hh.2 hn)]
    rfl
  · rw [if_neg hn, if_pos ⟨hi, hn⟩]
    rfl
theorem MJ.told {S : SrS} {g : GraphD} {st : Int} {D : List Nat} {s : Mst} (h : MJ S g st D s) (h0 : s.op = []) {i : Nat} (hi : i < S.n1) : (cAt s.dl i).t = tO (lstD S.n1 S.back g st i) := by
  rw [lstD_eq (h.least h0).1 (h.least h0).2]
  unfold mO
  by_cases hn : 0 ≤ (cAt s.dl i).t
  · rw [if_pos ⟨hi, hn⟩]
    rfl
  · rw [if_neg (fun hh => hn hh.2), h.neg i hi (by omega)]
    rfl
theorem MJ.list {S : SrS} {g : GraphD} {st : Int} {D : List Nat} {s : Mst} (h : MJ S g st D s) (h0 : s.op = []) : s.dl.map Cst.t = frL S.n1 S.back g st := by
  apply List.ext_getElem
  · rw [List.length_map, h.len, frL_len]
  · intro i h1 h2
    have hi : i < S.n1 := by rw [frL_len] at h2; exact h2
    rw [frL_at, ← h.told h0 hi, List.getElem_map, cAt_eq (by rw [h.len]; exact hi)]
theorem SJ.tb {S : SrS} {g : GraphD} {st : Int} {D : List Nat} {s : Sig} {Ls : List (List Nat)} (h : SJ S g st D s Ls) (hl : S.n1 ≤ 8000) {i : Nat} (hi : i < S.n1) : -1 ≤ tldC (cAt s.bl i) ∧ tldC (cAt s.bl i) ≤ 10000000000 := by
  unfold tldC
  split
  · omega
  · rename_i hn
    have := h.cb i _ (dO_some.2 ⟨hi, rfl, hn⟩)
    have := h.dl
    omega
/-- What FirstRoads answers. -/
noncomputable def frQ (g : GraphD) (x : Int) : List Int := if bP (graphP g) = true ∧ inN g.places.length x = true then frL g.roads.length true g x else []
theorem frQ_no {g : GraphD} {x : Int} (h : ¬ (graphP g ∧ inN g.places.length x = true)) : frQ g x = [] := by
  unfold frQ
  rw [if_neg (fun hh => h ⟨bP_out hh.1, hh.2⟩)]
theorem frQ_yes {g : GraphD} {x : Int} (h : graphP g) (hx : inN g.places.length x = true) : frQ g x = frL g.roads.length true g x := by
  unfold frQ
  rw [if_pos ⟨bP_true h, hx⟩]
end Go.Proofs.YtdjofkgmpbiofaaDoor

namespace Go.Proofs.YtdjofkgmpbiofaaDoor
open Go.RowKit Go.Maps

theorem timeTold_any (t : Int) (w : World) : Calls Tryd.prog 56 #[.int .i64 t] w fun e w' => e = .returned (.int .i64 (if t = noT then -1 else t)) ∧ w' = w := by
  by_cases h : t = noT
  · have hd : (t == 9223372036854775807) = true := by rw [beq_iff_eq]; exact h
    have HR : Hid ((if t = noT then -1 else t) = -1) := if_pos h
    rw [HR.out]
    clear h HR
    go_enter Tryd.func56, Tryd.ntmps56
    go_wp2
    go_ret
    exact ⟨rfl, rfl⟩
  · have hd : (t == 9223372036854775807) = false := by rw [beq_eq_false_iff_ne]; exact h
    have HR : Hid ((if t = noT then -1 else t) = t) := if_neg h
    rw [HR.out]
    clear h HR
    go_enter Tryd.func56, Tryd.ntmps56
    go_wp2
    go_ret
    exact ⟨rfl, rfl⟩
theorem told_any (c : Cst) (w : World) : Calls Tryd.prog 36 #[cstV c] w fun e w' => e = .returned (.int .i64 (tldC c)) ∧ Bel w w' := by
  have hB := bel_alloc (Bel.refl w) (.cells #[.int .i64 c.t, .int .i64 c.c] 84)
  have HR : Hid ((if c.t = noT then -1 else c.t) = tldC c) := (by unfold tldC; rfl : (if c.t = noT then -1 else c.t) = tldC c)
  have hcT := timeTold_any c.t
  rw [HR.out] at hcT
  go_enter Tryd.func36, Tryd.ntmps36
  go_wp2_with (go_at_call 56; refine (hcT _).mono ?_; rintro e w' ⟨rfl, rfl⟩)
  go_ret
  exact ⟨rfl, hB⟩

set_option maxHeartbeats 1000000 in
theorem searchBack_any (S : SrS) (lo nb : Nat) (V : Bool → Nat → Value) (g : GraphD) (b1 : List Nat) (p : Nat) (w : World) (hT : Tabs lo w (fun t => cond t S.Bb S.Be) S.n0 V (bgF g.roads S.n1)) (hC : Stc w.heap.size S g b1 nb w) (hn0 : g.places.length = S.n0) (hp : p < S.n0) (hst : S.start = (p : Int)) (hb : S.back = true) :
    Calls Tryd.prog 35 #[.agg #[.slice S.a0 S.n0 S.c0, .slice S.a1 S.n1 S.c1, .slice S.a2 S.n2 S.c2, .slice (some ⟨S.Bb, 0, none⟩) S.n0 S.n0, .slice (some ⟨S.Be, 0, none⟩) S.n0 S.n0, .map (some S.M), .slice (some ⟨S.Wd, 0, none⟩) S.n1 S.n1], .int .i64 S.start] w fun e w' => BegOut w S g e w' := by
  obtain ⟨W, HW⟩ : ∃ W, Hid (W = w.alloc (.cells #[.slice S.a0 S.n0 S.c0, .slice S.a1 S.n1 S.c1, .slice S.a2 S.n2 S.c2, .slice (some ⟨S.Bb, 0, none⟩) S.n0 S.n0, .slice (some ⟨S.Be, 0, none⟩) S.n0 S.n0, .map (some S.M), .slice (some ⟨S.Wd, 0, none⟩) S.n1 S.n1] 55)) := ⟨_, (rfl : w.alloc (.cells #[.slice S.a0 S.n0 S.c0, .slice S.a1 S.n1 S.c1, .slice S.a2 S.n2 S.c2, .slice (some ⟨S.Bb, 0, none⟩) S.n0 S.n0, .slice (some ⟨S.Be, 0, none⟩) S.n0 S.n0, .map (some S.M), .slice (some ⟨S.Wd, 0, none⟩) S.n1 S.n1] 55) = _)⟩
  have hBW : Bel w W := by rw [HW.out]; exact bel_alloc (Bel.refl _) _
  have HBW : Hid (Bel w W) := hBW
  have XW : Blk W w.heap.size [.slice S.a0 S.n0 S.c0, .slice S.a1 S.n1 S.c1, .slice S.a2 S.n2 S.c2, .slice (some ⟨S.Bb, 0, none⟩) S.n0 S.n0, .slice (some ⟨S.Be, 0, none⟩) S.n0 S.n0, .map (some S.M), .slice (some ⟨S.Wd, 0, none⟩) S.n1 S.n1] := by rw [HW.out]; exact Blk.new w [.slice S.a0 S.n0 S.c0, .slice S.a1 S.n1 S.c1, .slice S.a2 S.n2 S.c2, .slice (some ⟨S.Bb, 0, none⟩) S.n0 S.n0, .slice (some ⟨S.Be, 0, none⟩) S.n0 S.n0, .map (some S.M), .slice (some ⟨S.Wd, 0, none⟩) S.n1 S.n1] _
  have u0 : W.cell? ⟨w.heap.size, 0, none⟩ = some (.slice S.a0 S.n0 S.c0) := XW.cell 0 (by simp)
  have u1 : W.cell? ⟨w.heap.size, 1, none⟩ = some (.slice S.a1 S.n1 S.c1) := XW.cell 1 (by simp)
  have u2 : W.cell? ⟨w.heap.size, 2, none⟩ = some (.slice S.a2 S.n2 S.c2) := XW.cell 2 (by simp)
  have u3 : W.cell? ⟨w.heap.size, 3, none⟩ = some (.slice (some ⟨S.Bb, 0, none⟩) S.n0 S.n0) := XW.cell 3 (by simp)
  have u4 : W.cell? ⟨w.heap.size, 4, none⟩ = some (.slice (some ⟨S.Be, 0, none⟩) S.n0 S.n0) := XW.cell 4 (by simp)
  have u5 : W.cell? ⟨w.heap.size, 5, none⟩ = some (.map (some S.M)) := XW.cell 5 (by simp)
  have u6 : W.cell? ⟨w.heap.size, 6, none⟩ = some (.slice (some ⟨S.Wd, 0, none⟩) S.n1 S.n1) := XW.cell 6 (by simp)
  have ul := XW.lt
  have cB := begin_any S lo nb V g b1 p S.Be W (hT.bel hBW) ((hC.bel hBW).mono hBW.out.size) hn0 hp hst (by rw [hb]; rfl)
  rw [hb] at cB
  have HcB : Hid (Calls Tryd.prog 55 #[.agg #[.slice S.a0 S.n0 S.c0, .slice S.a1 S.n1 S.c1, .slice S.a2 S.n2 S.c2, .slice (some ⟨S.Bb, 0, none⟩) S.n0 S.n0, .slice (some ⟨S.Be, 0, none⟩) S.n0 S.n0, .map (some S.M), .slice (some ⟨S.Wd, 0, none⟩) S.n1 S.n1], .bool true, .slice (some ⟨S.Be, 0, none⟩) S.n0 S.n0, .int .i64 S.start] W fun e w' => BegOut W S g e w') := cB
  clear cB hT hC hst hb hBW XW hn0 hp
  go_enter Tryd.func35, Tryd.ntmps35
  go_wp2_with fail
  rw [← HW.out]
  refine HcB.out.mono ?_
  rintro e w2 ⟨⟨base, P, vl, s, Ls, D, rfl, h1, h2, h3, h4, h5⟩⟩
  have HE : Hid (BegOut w S g (.returned (.pointer (some ⟨P, 0, none⟩))) w2) := ⟨base, P, vl, s, Ls, D, rfl, h1, h2, h3, Nat.le_trans HBW.out.out.size h4, bel_step HBW.out h5⟩
  clear h1 h2 h3 h4 h5 u0 u1 u2 u3 u4 u5 u6 HcB
  go_wp2
  go_ret
  exact HE.out

/-- The first k of the told times, noughts behind. -/
def tkV (l : List Int) (k n : Nat) : List Value := (List.range n).map fun i => .int .i64 (if i < k then l[i]?.getD 0 else 0)
theorem tkV_len (l : List Int) (k n : Nat) : (tkV l k n).length = n := by simp [tkV]
theorem tkV_set {l : List Int} {k n : Nat} (hk : k < n) (hl : l.length = n) : (tkV l k n).set k (.int .i64 (l[k]'(by omega))) = tkV l (k + 1) n := by
  apply List.ext_getElem
  · simp [tkV]
  · intro i h1 h2
    rw [tkV_len] at h2
    by_cases e : i = k
    · subst e
      simp [tkV, hl, hk]
    · rw [List.getElem_set_ne (fun h => e h.symm)]
      simp only [tkV, List.getElem_map, List.getElem_range]
      by_cases h : i < k
      · rw [if_pos h, if_pos (by omega)]
      · rw [if_neg h, if_neg (by omega)]
theorem tkV_zero (l : List Int) (n : Nat) : tkV l 0 n = List.replicate n (.int .i64 0) := by
  apply List.ext_getElem
  · simp [tkV]
  · intro i h1 h2
    simp [tkV]
theorem tkV_all {l : List Int} {n : Nat} (hl : l.length = n) : tkV l n n = intsV l := by
  apply List.ext_getElem
  · simp [tkV, intsV, hl]
  · intro i h1 h2
    have hi : i < n := by rw [tkV_len] at h1; exact h1
    simp [tkV, intsV, hl, hi]

set_option maxRecDepth 100000 in
set_option maxHeartbeats 4000000 in
theorem firstRoads_any (v : Value) (g : GraphD) (bs : List Nat) (x : Int) (w : World) (hT : Winds w) (hV : GphV w v g bs) (hQ : GphQ g) :
    Calls Tryd.prog 15 #[v, .int .i64 x] w fun e w' => ∃ v', e = .returned v' ∧ OwnI w.heap.size w' v' (frQ g x) ∧ Bel w w' := by
  have hV' := hV
  obtain ⟨a0, c0, a1, c1, a2, c2, b0, b1, b2, _, rfl, t0, t1, t2⟩ := hV
  obtain ⟨n0, H0⟩ : ∃ n, Hid (g.places.length = n) := ⟨_, (rfl : g.places.length = _)⟩
  obtain ⟨n1, H1⟩ : ∃ n, Hid (g.roads.length = n) := ⟨_, (rfl : g.roads.length = _)⟩
  obtain ⟨n2, H2⟩ : ∃ n, Hid (g.bans.length = n) := ⟨_, (rfl : g.bans.length = _)⟩
  rw [H0.out, H1.out, H2.out] at hV' ⊢
  obtain ⟨W, HW⟩ : ∃ W, Hid (W = w.alloc (.cells #[.slice a0 n0 c0, .slice a1 n1 c1, .slice a2 n2 c2] 34)) := ⟨_, (rfl : w.alloc (.cells #[.slice a0 n0 c0, .slice a1 n1 c1, .slice a2 n2 c2] 34) = _)⟩
  have hBW : Bel w W := by rw [HW.out]; exact bel_alloc (Bel.refl _) _
  have XG : Blk W w.heap.size [.slice a0 n0 c0, .slice a1 n1 c1, .slice a2 n2 c2] := by rw [HW.out]; exact Blk.new w [.slice a0 n0 c0, .slice a1 n1 c1, .slice a2 n2 c2] _
  obtain ⟨R, HR⟩ : ∃ R, Hid (frQ g x = R) := ⟨_, (rfl : frQ g x = _)⟩
  rw [HR.out]
  by_cases hP : graphP g
  · have HP : Hid (graphP g) := hP
    have m1 : n1 ≤ 8000 := by rw [← H1.out]; exact hP.1.2.1
    have m0 : n0 ≤ 5000 := by rw [← H0.out]; exact hP.1.1
    clear hP
    go_enter Tryd.func15, Tryd.ntmps15
    go_wp2_with fail
    rw [← HW.out]
    refine (streetsOf_yes _ _ _ _ _ _ _ _ _ g b0 b1 b2 _ (hT.bel hBW) (t0.bel spotE hBW) (t1.bel roadE hBW) (t2.bel banE hBW) H0.out H1.out H2.out HP.out).mono ?_
    rintro e w1 ⟨⟨lo, Bb, Be, M, Wd, V, rfl, hTb, hS, hWn, hMl, _, _, _, hb1⟩⟩
    rw [H0.out, H1.out] at hTb
    rw [H1.out] at hWn
    rw [H0.out, H1.out]
    have hB1 := bel_step hBW hb1
    obtain ⟨U, HU⟩ : ∃ U, Hid (U = w1.alloc (.cells #[.slice a0 n0 c0, .slice a1 n1 c1, .slice a2 n2 c2, .slice (some ⟨Bb, 0, none⟩) n0 n0, .slice (some ⟨Be, 0, none⟩) n0 n0, .map (some M), .slice (some ⟨Wd, 0, none⟩) n1 n1] 55)) := ⟨_, (rfl : w1.alloc (.cells #[.slice a0 n0 c0, .slice a1 n1 c1, .slice a2 n2 c2, .slice (some ⟨Bb, 0, none⟩) n0 n0, .slice (some ⟨Be, 0, none⟩) n0 n0, .map (some M), .slice (some ⟨Wd, 0, none⟩) n1 n1] 55) = _)⟩
    have hbU : Bel w1 U := by rw [HU.out]; exact bel_alloc (Bel.refl _) _
    have hBU := bel_step hB1 hbU
    have XG1 := (XG.bel hb1).bel hbU
    have x0 : U.cell? ⟨w.heap.size, 0, none⟩ = some (.slice a0 n0 c0) := XG1.cell 0 (by simp)
    have x1 : U.cell? ⟨w.heap.size, 1, none⟩ = some (.slice a1 n1 c1) := XG1.cell 1 (by simp)
    have xl := XG1.lt
    rcases Bool.eq_false_or_eq_true (inN n0 x) with hx | hx
    rotate_left
    · have HF : Hid (R = []) := (by rw [← HR.out]; exact frQ_no (fun h => by have := h.2; rw [H0.out, hx] at this; cases this) : R = [])
      clear XG1 XG hS hWn hTb
      go_upto_region 2 with fail
      rw [← HU.out]
      go_wp2_with fail
      refine (inSpot_r _ _ _ _ false _ hx).mono ?_
      rintro e w' ⟨rfl, rfl⟩
      go_wp2
      go_ret
      exact ⟨_, rfl, by rw [HF.out]; exact World.ownsRow_nil _ _ _ _, hBU⟩
    obtain ⟨p, hp, rfl⟩ := inN_nat hx
    have HF : Hid (R = frL n1 true g (p : Int)) := (by rw [← HR.out, frQ_yes HP.out (by rw [H0.out]; exact hx), H1.out] : R = frL n1 true g (p : Int))
    have XU : Blk U w1.heap.size [.slice a0 n0 c0, .slice a1 n1 c1, .slice a2 n2 c2, .slice (some ⟨Bb, 0, none⟩) n0 n0, .slice (some ⟨Be, 0, none⟩) n0 n0, .map (some M), .slice (some ⟨Wd, 0, none⟩) n1 n1] := by rw [HU.out]; exact Blk.new w1 [.slice a0 n0 c0, .slice a1 n1 c1, .slice a2 n2 c2, .slice (some ⟨Bb, 0, none⟩) n0 n0, .slice (some ⟨Be, 0, none⟩) n0 n0, .map (some M), .slice (some ⟨Wd, 0, none⟩) n1 n1] _
    have hmk : ∀ w : World, (Instr.makeSlice 28 (.int .i64 n1) (.int .i64 n1)).run Tryd.prog w = .ok (.slice (some ⟨w.heap.size, 0, none⟩) n1 n1) (w.alloc (.cells (madeCells #[.int .i64 0] n1) 2)) := fun w => by
      obtain ⟨i0, hi, hz0, hz1, hz2⟩ := info_parts infoW
      have := run_make (P := Tryd.prog) w 28 2 i0 (.int .i64 0) Tryd.underlying28 hi hz0 .i64 .i64 n1 n1 (by omega) (by omega) (by rw [hz2]; omega) (by omega)
      rw [hz1, Nat.mul_one] at this
      exact this
    obtain ⟨X, HX⟩ : ∃ X, Hid (X = U.alloc (.cells (madeCells #[.int .i64 0] n1) 2)) := ⟨_, (rfl : U.alloc (.cells (madeCells #[.int .i64 0] n1) 2) = _)⟩
    have hbX : Bel U X := by rw [HX.out]; exact bel_alloc (Bel.refl _) _
    have hOX : X.ownsRow U.heap.size 2 1 (.slice (some ⟨U.heap.size, 0, none⟩) n1 n1) n1 (tkV R 0 n1) := by
      rw [HX.out, tkV_zero, ← toList_madeCells_one]
      exact World.ownsRow_lit U _ n1 (Nat.le_refl _) (by unfold maxLen; omega) (by rw [← Array.length_toList, toList_madeCells_one]; simp)
    obtain ⟨BT, HBT⟩ : ∃ n, Hid (U.heap.size = n) := ⟨_, (rfl : U.heap.size = _)⟩
    have hBTX : BT < X.heap.size := by rw [← HBT.out]; exact (World.ownsRow.lt hOX _ rfl).2
    rw [HBT.out] at hOX
    have XX := XU.bel hbX
    have u0 : X.cell? ⟨w1.heap.size, 0, none⟩ = some (.slice a0 n0 c0) := XX.cell 0 (by simp)
    have u1 : X.cell? ⟨w1.heap.size, 1, none⟩ = some (.slice a1 n1 c1) := XX.cell 1 (by simp)
    have u2 : X.cell? ⟨w1.heap.size, 2, none⟩ = some (.slice a2 n2 c2) := XX.cell 2 (by simp)
    have u3 : X.cell? ⟨w1.heap.size, 3, none⟩ = some (.slice (some ⟨Bb, 0, none⟩) n0 n0) := XX.cell 3 (by simp)
    have u4 : X.cell? ⟨w1.heap.size, 4, none⟩ = some (.slice (some ⟨Be, 0, none⟩) n0 n0) := XX.cell 4 (by simp)
    have u5 : X.cell? ⟨w1.heap.size, 5, none⟩ = some (.map (some M)) := XX.cell 5 (by simp)
    have u6 : X.cell? ⟨w1.heap.size, 6, none⟩ = some (.slice (some ⟨Wd, 0, none⟩) n1 n1) := XX.cell 6 (by simp)
    have ul := XX.lt
    have hBX := bel_step hBU hbX
    have hb1X := bel_step hbU hbX
    have hsM : M < X.heap.size := by have := hTb.sz; have := hb1X.out.size; omega
    have hsW : Wd < X.heap.size := by have := hWn.lt; have := hb1X.out.size; omega
    have hsR : ∀ y ∈ b1, y < X.heap.size := fun y hy => by have := t1.lt roadE y hy; have := hBX.out.size; omega
    have cS := searchBack_any ⟨a0, n0, c0, a1, n1, c1, a2, n2, c2, Bb, Be, M, Wd, true, (p : Int)⟩ lo g.bans.length V g b1 p X (hTb.bel hb1X) ⟨t1.bel roadE hBX, hsR, hWn.bel hb1X, hsW, hS.bel hb1X, hsM, H1.out, HP.out⟩ H0.out hp rfl rfl
    have HcS : Hid (Calls Tryd.prog 35 #[.agg #[.slice a0 n0 c0, .slice a1 n1 c1, .slice a2 n2 c2, .slice (some ⟨Bb, 0, none⟩) n0 n0, .slice (some ⟨Be, 0, none⟩) n0 n0, .map (some M), .slice (some ⟨Wd, 0, none⟩) n1 n1], .int .i64 (p : Int)] X fun e w' => BegOut X ⟨a0, n0, c0, a1, n1, c1, a2, n2, c2, Bb, Be, M, Wd, true, (p : Int)⟩ g e w') := cS
    have HBX : Hid (Bel w X) := hBX
    have HwBT : Hid (w.heap.size ≤ BT) := (by rw [← HBT.out]; exact hBU.out.size : w.heap.size ≤ BT)
    clear XG1 XG hS hWn XU hTb cS XX hbU hbX hB1 hb1X hBX t0 t1 t2 hV'
    go_upto_region 2 with fail
    rw [← HU.out]
    go_wp2_with fail
    refine (inSpot_r _ _ _ _ true _ hx).mono ?_
    rintro e w' ⟨rfl, rfl⟩
    go_upto_region 5 with fail
    rw [← HX.out, HBT.out]
    go_wp2_with fail
    refine HcS.out.mono ?_
    rintro e wS ⟨⟨base, P, vl, s, Ls, D, rfl, hSJ, h0, hSt, hbs, hbS⟩⟩
    have HSJ : Hid (∀ i, i < n1 → tldC (cAt s.bl i) = tO (lstD n1 true g (p : Int) i)) := fun i hi => hSJ.told h0 hi
    have Hbl : Hid (s.bl.length = n1) := hSJ.bl
    have hOS := own_bel hOX hbS
    have HOS : Hid (wS.ownsRow BT 2 1 (.slice (some ⟨BT, 0, none⟩) n1 n1) n1 (tkV R 0 n1)) := hOS
    obtain ⟨vb, vo, vi, ys, hP1, hB1', _, _, _, _⟩ := hSt.out
    have HP1 : Hid (SrP base _ P wS vb vl vo vi) := hP1
    have HB1 : Hid (SrB base wS vb s.bl) := hB1'
    obtain ⟨gb, cb, hvb⟩ := own_shape hB1'
    rw [Hbl.out] at hvb
    have p9 : wS.cell? ⟨P, 9, none⟩ = some (.slice gb n1 cb) := by rw [← hvb]; exact SrP.at hP1 9 (by omega)
    have pl := (SrP.lt hP1).2
    have Hvb : Hid (vb = .slice gb n1 cb) := hvb
    have HBS : Hid (Bel w wS) := bel_step HBX.out hbS
    clear u0 u1 u2 u3 u4 u5 u6 x0 x1 HcS hSJ h0 hSt hP1 hB1' hvb hbS hOX hbs
    go_wp2
    clear p9 pl
    go_loopw [8, 9, 35] (fun _ _ i wr => ∃ k : Nat, k ≤ n1 ∧ i = .int .i64 k ∧ Hid (wr.ownsRow BT 2 1 (.slice (some ⟨BT, 0, none⟩) n1 n1) n1 (tkV R k n1)) ∧ Hid (Frx (fun y => y ≠ BT) wS wr)) (fun _ _ i _ => n1 - (intOf i).toNat)
    case atStart => exact ⟨0, Nat.zero_le _, rfl, hOS, Frx.refl _ _⟩
    case round =>
      clear hOS
      obtain ⟨k, hk, rfl, HO, HFr⟩ := hrel
      have HRl : Hid (R.length = n1) := (by rw [HF.out, frL_len] : R.length = n1)
      by_cases hlt : k < n1
      · have hkb : k < s.bl.length := by rw [Hbl.out]; exact hlt
        have hBr : SrB base wr vb s.bl := own_frx HB1.out HFr.out (fun y e ey => by
          subst ey
          exact own_apart HB1.out HOS.out (by decide) e rfl)
        obtain ⟨gA, cA, ev, _, hgA⟩ := own_in hBr (by omega)
        rw [Hvb.out] at ev
        simp only [Value.slice.injEq] at ev
        obtain ⟨rfl, hev, rfl⟩ := ev
        clear hev
        have hBr2 : SrB base wr (.slice (some ⟨gA, 0, none⟩) n1 cb) s.bl := (by rw [← Hvb.out]; exact hBr)
        obtain ⟨y0, y1⟩ := SrB.at hBr2 Hbl.out hkb
        have HTk := HSJ.out k hlt
        rw [cAt_eq hkb] at HTk
        obtain ⟨c, Hc⟩ : ∃ c, Hid (s.bl[k] = c) := ⟨_, (rfl : s.bl[k] = _)⟩
        rw [Hc.out] at y0 y1 HTk
        obtain ⟨T, HT⟩ : ∃ t, Hid (tldC c = t) := ⟨_, (rfl : tldC c = _)⟩
        have HRk : Hid ((tkV R k n1).set k (.int .i64 T) = tkV R (k + 1) n1) := (by
          rw [← tkV_set hlt HRl.out, ← HT.out, HTk]
          congr 2
          simp only [HF.out, frL_at] : (tkV R k n1).set k (.int .i64 T) = tkV R (k + 1) n1)
        have hltI : (k : Int) < (n1 : Int) := by omega
        have hcT := fun w' => told_any c w'
        rw [HT.out] at hcT
        clear hBr hBr2 HTk
        go_wp2_with fail
        refine (hcT _).mono ?_
        rintro e w7 ⟨rfl, hb7⟩
        have hB7 : Bel wr w7 := bel_then hb7 (by first | exact bel_alloc (Bel.refl _) _ | exact bel_set (bel_set (bel_alloc (Bel.refl _) _) (Nat.le_refl _) _) (Nat.le_refl _) _)
        have hO7 := own_bel HO.out hB7
        have o1 : w7.cell? ⟨BT, k, none⟩ = some ((tkV R k n1)[k]'(by rw [tkV_len]; exact hlt)) := by rw [hO7.cellAt k (by omega), List.getElem?_eq_getElem]
        have o2 := World.ownsRow.frozenAt hO7 k
        have o3 := (World.ownsRow.lt hO7 BT rfl).2
        have HO8 : Hid ((w7.setCell ⟨BT, k, none⟩ (.int .i64 T)).ownsRow BT 2 1 (.slice (some ⟨BT, 0, none⟩) n1 n1) n1 (tkV R (k + 1) n1)) := (by rw [← HRk.out]; exact (World.ownsRow.stored hO7 k (.int .i64 T)).1 : (w7.setCell ⟨BT, k, none⟩ (.int .i64 T)).ownsRow BT 2 1 (.slice (some ⟨BT, 0, none⟩) n1 n1) n1 (tkV R (k + 1) n1))
        have HF8 : Hid (Frx (fun y => y ≠ BT) wS (w7.setCell ⟨BT, k, none⟩ (.int .i64 T))) := HFr.out.trans ((Frx.bel hB7).trans (Frx.grow (setCell_grown w7 BT k _) (fun y e he => by injection e with e; exact he e.symm)))
        obtain ⟨old, Hold⟩ : ∃ v, Hid ((tkV R k n1)[k]'(by rw [tkV_len]; exact hlt) = v) := ⟨_, (rfl : (tkV R k n1)[k]'(by rw [tkV_len]; exact hlt) = _)⟩
        rw [Hold.out] at o1
        clear hO7 y0 y1 hcT hB7 hb7
        go_wp2
        go_roundw
        case rel => exact ⟨k + 1, by omega, by go_num, HO8, HF8⟩
        case measure => simp [intOf]; omega
      · have e : n1 = k := by omega
        have HOE : Hid (OwnI w.heap.size wr (.slice (some ⟨BT, 0, none⟩) n1 n1) R) := (by
          have h := HO.out
          rw [← e, tkV_all HRl.out] at h
          unfold OwnI
          rw [HRl.out]
          exact own_lo h HwBT.out : OwnI w.heap.size wr (.slice (some ⟨BT, 0, none⟩) n1 n1) R)
        have HBE : Hid (Bel w wr) := Frx.bel_of HBS.out HFr.out HwBT.out
        clear HO HFr
        subst e
        go_wp2
        go_ret
        exact ⟨_, rfl, HOE.out, HBE.out⟩
  · have HF : Hid (R = []) := (by rw [← HR.out]; exact frQ_no (fun h => hP h.1) : R = [])
    go_enter Tryd.func15, Tryd.ntmps15
    go_wp2_with fail
    rw [← HW.out]
    refine (streetsOf_no _ _ _ _ _ _ _ _ _ g bs _ (hV'.bel hBW) hQ hP).mono ?_
    rintro e w1 ⟨rfl, hb1⟩
    have hB1 := bel_step hBW hb1
    clear XG
    go_wp2
    go_ret
    exact ⟨_, rfl, by rw [HF.out]; exact World.ownsRow_nil _ _ _ _, bel_alloc hB1 _⟩
end Go.Proofs.YtdjofkgmpbiofaaDoor
