/-
  Reach in the model: contract.
-/
import Derived.Test.YtdjofkgmpbiofaaDoorRtS
import Derived.Test.YtdjofkgmpbiofaaDoorFrdS
import Derived.Test.YtdjofkgmpbiofaaDoorFirstRoadsL
namespace Go.Proofs.YtdjofkgmpbiofaaDoor
open Go.RowKit Go.Maps

set_option maxRecDepth 100000 in
set_option maxHeartbeats 2000000 in
theorem specReach_any (v : Value) (g : GraphD) (bs : List Nat) (x : Int) (w : World) (hV : GphV w v g bs) (hQ : GphQ g) :
    Calls Tryd.prog 6 #[v, .int .i64 x] w fun e w' => ∃ v', e = .returned v' ∧ OwnI w.heap.size w' v' (rcQ g x) ∧ Bel w w' := by
  have hV' := hV
  obtain ⟨a0, c0, a1, c1, a2, c2, b0, b1, b2, _, rfl, t0, t1, t2⟩ := hV
  obtain ⟨n0, H0⟩ : ∃ n, Hid (g.places.length = n) := ⟨_, (rfl : g.places.length = _)⟩
  obtain ⟨n1, H1⟩ : ∃ n, Hid (g.roads.length = n) := ⟨_, (rfl : g.roads.length = _)⟩
  obtain ⟨n2, H2⟩ : ∃ n, Hid (g.bans.length = n) := ⟨_, (rfl : g.bans.length = _)⟩
  rw [H0.out, H1.out, H2.out] at hV' ⊢
  obtain ⟨W, HW⟩ : ∃ W, Hid (W = w.alloc (.cells #[.slice a0 n0 c0, .slice a1 n1 c1, .slice a2 n2 c2] 34)) := ⟨_, (rfl : w.alloc (.cells #[.slice a0 n0 c0, .slice a1 n1 c1, .slice a2 n2 c2] 34) = _)⟩
  have hBW : Bel w W := by rw [HW.out]; exact bel_alloc (Bel.refl _) _
  have XG : Blk W w.heap.size [.slice a0 n0 c0, .slice a1 n1 c1, .slice a2 n2 c2] := by rw [HW.out]; exact Blk.new w [.slice a0 n0 c0, .slice a1 n1 c1, .slice a2 n2 c2] _
  obtain ⟨R, HR⟩ : ∃ R, Hid (rcQ g x = R) := ⟨_, (rfl : rcQ g x = _)⟩
  rw [HR.out]
  have hGr : ∀ r, bP (graphP g) = r → Calls Tryd.prog 19 #[gphV a0 n0 c0 a1 n1 c1 a2 n2 c2] W fun e w2 => e = .returned (.bool r) ∧ Bel W w2 := fun r hr => by
    rw [← hr]; exact specGraphOk_any _ g bs _ (hV'.bel hBW) hQ
  have z0 : W.cell? ⟨w.heap.size, 0, none⟩ = some (.slice a0 n0 c0) := XG.cell 0 (by simp)
  have z1 : W.cell? ⟨w.heap.size, 1, none⟩ = some (.slice a1 n1 c1) := XG.cell 1 (by simp)
  have z2 : W.cell? ⟨w.heap.size, 2, none⟩ = some (.slice a2 n2 c2) := XG.cell 2 (by simp)
  have zl := XG.lt
  have HXG : Hid (Blk W w.heap.size [.slice a0 n0 c0, .slice a1 n1 c1, .slice a2 n2 c2]) := XG
  clear XG
  by_cases hP : graphP g
  rotate_left
  · have HF : Hid (R = []) := (by rw [← HR.out]; exact rcQ_no (fun h => hP h.1) : R = [])
    have hG := hGr false (bP_false hP)
    clear hGr
    go_enter Tryd.func6, Tryd.ntmps6
    go_wp2_with fail
    rw [← HW.out]
    refine hG.mono ?_
    rintro e w1 ⟨rfl, hb1⟩
    clear z0 z1 z2 zl hG
    go_wp2
    go_ret
    exact ⟨_, rfl, by rw [HF.out]; exact World.ownsRow_lit w1 #[] 0 (bel_step hBW hb1).out.size (Nat.zero_le _) rfl, bel_alloc (bel_step hBW hb1) _⟩
  have HP : Hid (graphP g) := hP
  have hG := hGr true (bP_true hP)
  have m1 : n1 ≤ 8000 := by rw [← H1.out]; exact hP.1.2.1
  clear hGr hP
  rcases Bool.eq_false_or_eq_true (inN n0 x) with hx | hx
  rotate_left
  · have HF : Hid (R = []) := (by rw [← HR.out]; exact rcQ_no (fun h => by have := h.2; rw [H0.out, hx] at this; cases this) : R = [])
    go_enter Tryd.func6, Tryd.ntmps6
    go_wp2_with fail
    rw [← HW.out]
    refine hG.mono ?_
    rintro e w1 ⟨rfl, hb1⟩
    have XG1 := HXG.out.bel hb1
    have y0 : w1.cell? ⟨w.heap.size, 0, none⟩ = some (.slice a0 n0 c0) := XG1.cell 0 (by simp)
    have y1 : w1.cell? ⟨w.heap.size, 1, none⟩ = some (.slice a1 n1 c1) := XG1.cell 1 (by simp)
    have y2 : w1.cell? ⟨w.heap.size, 2, none⟩ = some (.slice a2 n2 c2) := XG1.cell 2 (by simp)
    have yl := XG1.lt
    clear z0 z1 z2 zl hG XG1
    go_wp2_with fail
    refine (l10SpotIs_r x _ _ _ _ _ _ _ _ _ false _ hx).mono ?_
    rintro e w2 ⟨rfl, hb2⟩
    have hB2 := bel_step hBW (bel_step hb1 hb2)
    clear y0 y1 y2 yl hb1 hb2
    go_wp2
    go_ret
    exact ⟨_, rfl, by rw [HF.out]; exact World.ownsRow_lit w2 #[] 0 hB2.out.size (Nat.zero_le _) rfl, bel_alloc hB2 _⟩
  obtain ⟨p, hp, rfl⟩ := inN_nat hx
  have HF : Hid (R = rcL n0 n1 g (lstD n1 false g (p : Int)) (p : Int)) := (by rw [← HR.out, rcQ_yes HP.out (by rw [H0.out]; exact hx), H0.out, H1.out] : R = rcL n0 n1 g (lstD n1 false g (p : Int)) (p : Int))
  have HT : Hid (SpotL w a0 g.places b0 ∧ RoadL w a1 g.roads b1 ∧ BanL w a2 g.bans b2) := ⟨t0, t1, t2⟩
  have HRl : Hid (R.length = n0) := (by rw [HF.out, rcL_len] : R.length = n0)
  clear t0 t1 t2 hV'
  go_enter Tryd.func6, Tryd.ntmps6
  go_wp2_with fail
  rw [← HW.out]
  refine hG.mono ?_
  rintro e w1 ⟨rfl, hb1⟩
  have XG1 := HXG.out.bel hb1
  have y0 : w1.cell? ⟨w.heap.size, 0, none⟩ = some (.slice a0 n0 c0) := XG1.cell 0 (by simp)
  have y1 : w1.cell? ⟨w.heap.size, 1, none⟩ = some (.slice a1 n1 c1) := XG1.cell 1 (by simp)
  have y2 : w1.cell? ⟨w.heap.size, 2, none⟩ = some (.slice a2 n2 c2) := XG1.cell 2 (by simp)
  have yl := XG1.lt
  clear z0 z1 z2 zl hG
  go_wp2_with fail
  refine (l10SpotIs_r (p : Int) _ _ _ _ _ _ _ _ _ true _ hx).mono ?_
  rintro e w2 ⟨rfl, hb2⟩
  have X2 := XG1.bel hb2
  have x0 : w2.cell? ⟨w.heap.size, 0, none⟩ = some (.slice a0 n0 c0) := X2.cell 0 (by simp)
  have x1 : w2.cell? ⟨w.heap.size, 1, none⟩ = some (.slice a1 n1 c1) := X2.cell 1 (by simp)
  have x2 : w2.cell? ⟨w.heap.size, 2, none⟩ = some (.slice a2 n2 c2) := X2.cell 2 (by simp)
  have xl := X2.lt
  have hB2 := bel_step hBW (bel_step hb1 hb2)
  obtain ⟨D, s, hMJ, h0⟩ := MJ.ends (S := mkS n1 false) (st := (p : Int)) HP.out H1.out _ _ _ (MJ.start HP.out H1.out) (Nat.le_refl _)
  have hLst : lstD n1 false g (p : Int) = mO n1 s.dl := lstD_eq (S := mkS n1 false) (hMJ.least h0).1 (hMJ.least h0).2
  have cR := l10Reach_any a0 n0 c0 a1 n1 c1 a2 n2 c2 g b0 b1 b2 p (lstD n1 false g (p : Int)) w2 (HT.out.1.bel spotE hB2) (HT.out.2.1.bel roadE hB2) (HT.out.2.2.bel banE hB2) H0.out H1.out H2.out HP.out hp (by rw [hLst]; exact (hMJ.least h0).1) (fun x c hx => by rw [hLst] at hx; exact (mO_some.1 hx).2.2)
  rw [← HF.out] at cR
  have HB2 : Hid (Bel w w2) := hB2
  clear y0 y1 y2 yl XG1 hb1 hb2 X2 hB2 hMJ h0 hLst
  go_wp2_with fail
  refine cR.mono ?_
  rintro e w3 ⟨B, rfl, hO, hb3⟩
  have HO : Hid (OwnI w.heap.size w3 (.slice (some ⟨B, 0, none⟩) n0 n0) R) := (by
    unfold OwnI
    rw [HRl.out]
    exact own_lo hO HB2.out.out.size : OwnI w.heap.size w3 (.slice (some ⟨B, 0, none⟩) n0 n0) R)
  have HB3 : Hid (Bel w w3) := bel_step HB2.out hb3
  clear hO hb3 cR x0 x1 x2 xl
  go_wp2
  go_ret
  exact ⟨_, rfl, HO.out, HB3.out⟩
end Go.Proofs.YtdjofkgmpbiofaaDoor
