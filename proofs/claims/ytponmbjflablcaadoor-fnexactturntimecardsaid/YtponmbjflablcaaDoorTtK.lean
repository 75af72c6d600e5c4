/-
  TurnTime in the program: contract.
-/
import Derived.Test.YtponmbjflablcaaDoorTtJ
import Derived.Test.YtponmbjflablcaaDoorStrI
namespace Go.Proofs.YtponmbjflablcaaDoor
open Go.RowKit Go.Maps

theorem ttQ_eq {g : GraphD} {i j : Nat} (hP : graphP g) (hi : i < g.roads.length) (hj : j < g.roads.length) : ttQ g (i : Int) (j : Int) = ttB g i j := by
  by_cases h : g.roads[i].to = g.roads[j].fr
  · rw [ttQ_at hP hi hj h, ttB_yes (by rw [rdAt_eq hi, rdAt_eq hj]; exact h)]
  · rw [ttQ_apart hi hj h, ttB_no (by rw [rdAt_eq hi, rdAt_eq hj]; exact h)]

set_option maxRecDepth 100000 in
set_option maxHeartbeats 2000000 in
theorem turnTimeI_any (v : Value) (g : GraphD) (bs : List Nat) (x y : Int) (w : World) (hT : Winds w) (hV : GphV w v g bs) (hQ : GphQ g) :
    Calls Tryd.prog 11 #[v, .int .i64 x, .int .i64 y] w fun e w' => e = .returned (.int .i64 (ttQ g x y)) ∧ Bel w w' := by
  have hV' := hV
  obtain ⟨a0, c0, a1, c1, a2, c2, b0, b1, b2, _, rfl, t0, t1, t2⟩ := hV
  obtain ⟨n0, H0⟩ : ∃ n, Hid (g.places.length = n) := ⟨_, (rfl : g.places.length = _)⟩
  obtain ⟨n1, H1⟩ : ∃ n, Hid (g.roads.length = n) := ⟨_, (rfl : g.roads.length = _)⟩
  obtain ⟨n2, H2⟩ : ∃ n, Hid (g.bans.length = n) := ⟨_, (rfl : g.bans.length = _)⟩
  rw [H0.out, H1.out, H2.out] at hV' ⊢
  obtain ⟨W, HW⟩ : ∃ W, Hid (W = w.alloc (.cells #[.slice a0 n0 c0, .slice a1 n1 c1, .slice a2 n2 c2] 33)) := ⟨_, (rfl : w.alloc (.cells #[.slice a0 n0 c0, .slice a1 n1 c1, .slice a2 n2 c2] 33) = _)⟩
  have hBW : Bel w W := by rw [HW.out]; exact bel_alloc (Bel.refl _) _
  have XG : Blk W w.heap.size [.slice a0 n0 c0, .slice a1 n1 c1, .slice a2 n2 c2] := by rw [HW.out]; exact Blk.new w [.slice a0 n0 c0, .slice a1 n1 c1, .slice a2 n2 c2] _
  obtain ⟨R, HR⟩ : ∃ R, Hid (ttQ g x y = R) := ⟨_, (rfl : ttQ g x y = _)⟩
  rw [HR.out]
  by_cases hP : graphP g
  · have HP : Hid (graphP g) := hP
    have m1 : n1 ≤ 8000 := by rw [← H1.out]; exact hP.1.2.1
    clear hP
    go_enter Tryd.func11, Tryd.ntmps11
    go_wp2_with fail
    rw [← HW.out]
    refine (streetsOf_yes _ _ _ _ _ _ _ _ _ g b0 b1 b2 _ (hT.bel hBW) (t0.bel spotE hBW) (t1.bel roadE hBW) (t2.bel banE hBW) H0.out H1.out H2.out HP.out).mono ?_
    rintro e w1 ⟨⟨lo, Bb, Be, M, Wd, V, rfl, _, hS, hWn, _, _, _, _, hb1⟩⟩
    rw [H1.out] at hWn
    rw [H0.out, H1.out]
    have hB1 := bel_step hBW hb1
    obtain ⟨U, HU⟩ : ∃ U, Hid (U = w1.alloc (.cells #[.slice a0 n0 c0, .slice a1 n1 c1, .slice a2 n2 c2, .slice (some ⟨Bb, 0, none⟩) n0 n0, .slice (some ⟨Be, 0, none⟩) n0 n0, .map (some M), .slice (some ⟨Wd, 0, none⟩) n1 n1] 67)) := ⟨_, (rfl : w1.alloc (.cells #[.slice a0 n0 c0, .slice a1 n1 c1, .slice a2 n2 c2, .slice (some ⟨Bb, 0, none⟩) n0 n0, .slice (some ⟨Be, 0, none⟩) n0 n0, .map (some M), .slice (some ⟨Wd, 0, none⟩) n1 n1] 67) = _)⟩
    have hbU : Bel w1 U := by rw [HU.out]; exact bel_alloc (Bel.refl _) _
    have hBU := bel_step hB1 hbU
    have XG1 := (XG.bel hb1).bel hbU
    have x0 : U.cell? ⟨w.heap.size, 0, none⟩ = some (.slice a0 n0 c0) := XG1.cell 0 (by simp)
    have x1 : U.cell? ⟨w.heap.size, 1, none⟩ = some (.slice a1 n1 c1) := XG1.cell 1 (by simp)
    have xl := XG1.lt
    rcases Bool.eq_false_or_eq_true (inN n1 x) with hx | hx
    rotate_left
    · have HF : Hid (R = -1) := (by rw [← HR.out]; exact ttQ_no (fun h => by have := h.2.1; rw [H1.out, hx] at this; cases this) : R = -1)
      clear XG1 XG hS hWn
      go_upto_region 2 with fail
      rw [← HU.out]
      go_wp2_with fail
      refine (inRoad_r _ _ _ _ false _ hx).mono ?_
      rintro e w' ⟨rfl, rfl⟩
      go_wp2
      go_ret
      exact ⟨by rw [HF.out]; rfl, hBU⟩
    rcases Bool.eq_false_or_eq_true (inN n1 y) with hy | hy
    rotate_left
    · have HF : Hid (R = -1) := (by rw [← HR.out]; exact ttQ_no (fun h => by have := h.2.2; rw [H1.out, hy] at this; cases this) : R = -1)
      clear XG1 XG hS hWn
      go_upto_region 2 with fail
      rw [← HU.out]
      go_wp2_with fail
      refine (inRoad_r _ _ _ _ true _ hx).mono ?_
      rintro e w' ⟨rfl, rfl⟩
      go_wp2_with fail
      refine (inRoad_r _ _ _ _ false _ hy).mono ?_
      rintro e w' ⟨rfl, rfl⟩
      go_wp2
      go_ret
      exact ⟨by rw [HF.out]; rfl, hBU⟩
    obtain ⟨i, hi, rfl⟩ := inN_nat hx
    obtain ⟨j, hj, rfl⟩ := inN_nat hy
    have HF : Hid (R = ttB g i j) := (by rw [← HR.out]; exact ttQ_eq HP.out (by rw [H1.out]; exact hi) (by rw [H1.out]; exact hj) : R = ttB g i j)
    have XU : Blk U w1.heap.size [.slice a0 n0 c0, .slice a1 n1 c1, .slice a2 n2 c2, .slice (some ⟨Bb, 0, none⟩) n0 n0, .slice (some ⟨Be, 0, none⟩) n0 n0, .map (some M), .slice (some ⟨Wd, 0, none⟩) n1 n1] := by rw [HU.out]; exact Blk.new w1 [.slice a0 n0 c0, .slice a1 n1 c1, .slice a2 n2 c2, .slice (some ⟨Bb, 0, none⟩) n0 n0, .slice (some ⟨Be, 0, none⟩) n0 n0, .map (some M), .slice (some ⟨Wd, 0, none⟩) n1 n1] _
    have u0 : U.cell? ⟨w1.heap.size, 0, none⟩ = some (.slice a0 n0 c0) := XU.cell 0 (by simp)
    have u1 : U.cell? ⟨w1.heap.size, 1, none⟩ = some (.slice a1 n1 c1) := XU.cell 1 (by simp)
    have u2 : U.cell? ⟨w1.heap.size, 2, none⟩ = some (.slice a2 n2 c2) := XU.cell 2 (by simp)
    have u3 : U.cell? ⟨w1.heap.size, 3, none⟩ = some (.slice (some ⟨Bb, 0, none⟩) n0 n0) := XU.cell 3 (by simp)
    have u4 : U.cell? ⟨w1.heap.size, 4, none⟩ = some (.slice (some ⟨Be, 0, none⟩) n0 n0) := XU.cell 4 (by simp)
    have u5 : U.cell? ⟨w1.heap.size, 5, none⟩ = some (.map (some M)) := XU.cell 5 (by simp)
    have u6 : U.cell? ⟨w1.heap.size, 6, none⟩ = some (.slice (some ⟨Wd, 0, none⟩) n1 n1) := XU.cell 6 (by simp)
    have ul := XU.lt
    have hSU := hS.bel hbU
    have hWU := hWn.bel hbU
    clear XG1 XG hS hWn XU
    go_upto_region 2 with fail
    rw [← HU.out]
    go_wp2_with fail
    refine (inRoad_r _ _ _ _ true _ hx).mono ?_
    rintro e w' ⟨rfl, rfl⟩
    go_wp2_with fail
    refine (inRoad_r _ _ _ _ true _ hy).mono ?_
    rintro e w' ⟨rfl, rfl⟩
    go_wp2_with fail
    refine (turnTime_any _ _ _ _ _ _ _ _ _ _ _ _ _ _ _ M _ Wd g b1 i j _ (t1.bel roadE hBU) H1.out m1 hi hj hWU hSU).mono ?_
    rintro e w3 ⟨rfl, hb3⟩
    clear u0 u1 u2 u3 u4 u5 u6 hSU hWU x0 x1
    go_wp2
    go_ret
    exact ⟨by rw [HF.out]; rfl, bel_step hBU hb3⟩
  · have HF : Hid (R = -1) := (by rw [← HR.out]; exact ttQ_no (fun h => hP h.1) : R = -1)
    go_enter Tryd.func11, Tryd.ntmps11
    go_wp2_with fail
    rw [← HW.out]
    refine (streetsOf_no _ _ _ _ _ _ _ _ _ g bs _ (hV'.bel hBW) hQ hP).mono ?_
    rintro e w1 ⟨rfl, hb1⟩
    have hB1 := bel_step hBW hb1
    clear XG
    go_wp2
    go_ret
    exact ⟨by rw [HF.out]; rfl, bel_alloc hB1 _⟩
end Go.Proofs.YtponmbjflablcaaDoor
