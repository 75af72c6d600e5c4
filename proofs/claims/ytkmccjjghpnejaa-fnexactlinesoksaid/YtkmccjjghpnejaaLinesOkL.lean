/-
  The walk of the law: for every timetable LinesOk answers as its model does, and the timetable that was handed in stays as it was. No condition.
-/
import Derived.Test.YtkmccjjghpnejaaLinT
import Derived.Test.YtkmccjjghpnejaaLinJ
import Derived.Deep.RegionHeld3
namespace Go.Proofs.Ytkmccjjghpnejaa
open Go.RowKit

set_option maxRecDepth 100000 in
set_option maxHeartbeats 1000000 in
theorem lawFnExactLinesOk_any (v : Value) (m : LinesD) (bs : List Nat) (w : World) (hV : LinV w v m bs) (hN : LinN m) :
    Calls Try.prog 4 #[v] w fun e w' => e = .returned (.bool true) ∧ Bel w w' := by
  have hV' := hV
  obtain ⟨a0, c0, a1, c1, a2, c2, b0, b1, b2, _, rfl, _, _, _⟩ := hV
  obtain ⟨n0, hn0⟩ : ∃ n, m.stops.length = n := ⟨_, rfl⟩
  obtain ⟨n1, hn1⟩ : ∃ n, m.trips.length = n := ⟨_, rfl⟩
  obtain ⟨n2, hn2⟩ : ∃ n, m.walks.length = n := ⟨_, rfl⟩
  rw [hn0, hn1, hn2] at hV' ⊢
  clear hn0 hn1 hn2
  have X0 : Blk (w.alloc (.cells #[.slice a0 n0 c0, .slice a1 n1 c1, .slice a2 n2 c2] 43)) w.heap.size [.slice a0 n0 c0, .slice a1 n1 c1, .slice a2 n2 c2] := Blk.new w [.slice a0 n0 c0, .slice a1 n1 c1, .slice a2 n2 c2] _
  have S0 : Bel w (w.alloc (.cells #[.slice a0 n0 c0, .slice a1 n1 c1, .slice a2 n2 c2] 43)) := bel_alloc (Bel.refl _) _
  by_cases hf : ((linesSz m : Nat) : Int) ≤ 1048576
  · have hL := linQ_of (g := m) (by omega)
    have hs : szR 1048576 (linesSz m) = 1048576 - linesSz m := szR_pos hf
    obtain ⟨r, Hr⟩ : ∃ r, Hid (szR 1048576 (linesSz m) = r) := ⟨_, (rfl : szR 1048576 (linesSz m) = _)⟩
    have hr0 : 0 ≤ r := by rw [← Hr.out, hs]; omega
    have HL : Hid (LinQ m) := hL
    obtain ⟨R, HR⟩ : ∃ R, Hid (linesB m = R) := ⟨_, (rfl : linesB m = _)⟩
    have hRR : (R != R) = false := by cases R <;> rfl
    clear hs hf hL
    go_enter Try.func4, Try.ntmps4
    go_wp2_with fail
    refine (szLines_v _ m bs _ _ (hV'.bel S0) hN (by omega) (by omega)).mono ?_
    rintro e w1 ⟨rfl, hb1⟩
    rw [Hr.out]
    have S1 := bel_step S0 hb1
    have X1 := X0.bel hb1
    have x10 : w1.cell? ⟨w.heap.size, 0, none⟩ = some (.slice a0 n0 c0) := X1.cell 0 (by simp)
    have x11 : w1.cell? ⟨w.heap.size, 1, none⟩ = some (.slice a1 n1 c1) := X1.cell 1 (by simp)
    have x12 : w1.cell? ⟨w.heap.size, 2, none⟩ = some (.slice a2 n2 c2) := X1.cell 2 (by simp)
    go_wp2_with fail
    refine (toLines_v _ m bs _ (hV'.bel S1) HL.out).mono ?_
    rintro e w2 ⟨v2, d2, rfl, V2, _, hb2⟩
    have S2 := bel_step S1 hb2
    have X2 := X1.bel hb2
    clear X1
    have x20 : w2.cell? ⟨w.heap.size, 0, none⟩ = some (.slice a0 n0 c0) := X2.cell 0 (by simp)
    have x21 : w2.cell? ⟨w.heap.size, 1, none⟩ = some (.slice a1 n1 c1) := X2.cell 1 (by simp)
    have x22 : w2.cell? ⟨w.heap.size, 2, none⟩ = some (.slice a2 n2 c2) := X2.cell 2 (by simp)
    go_wp2_with fail
    refine (specLinesOk_r _ m d2 R _ V2 HL.out HR.out).mono ?_
    rintro e w3 ⟨rfl, hb3⟩
    have S3 := bel_step S2 hb3
    have X3 := X2.bel hb3
    clear X2
    have x30 : w3.cell? ⟨w.heap.size, 0, none⟩ = some (.slice a0 n0 c0) := X3.cell 0 (by simp)
    have x31 : w3.cell? ⟨w.heap.size, 1, none⟩ = some (.slice a1 n1 c1) := X3.cell 1 (by simp)
    have x32 : w3.cell? ⟨w.heap.size, 2, none⟩ = some (.slice a2 n2 c2) := X3.cell 2 (by simp)
    go_wp2_with fail
    refine (toLines_v _ m bs _ (hV'.bel S3) HL.out).mono ?_
    rintro e w4 ⟨v4, d4, rfl, V4, _, hb4⟩
    have S4 := bel_step S3 hb4
    have X4 := X3.bel hb4
    clear X3
    have x40 : w4.cell? ⟨w.heap.size, 0, none⟩ = some (.slice a0 n0 c0) := X4.cell 0 (by simp)
    have x41 : w4.cell? ⟨w.heap.size, 1, none⟩ = some (.slice a1 n1 c1) := X4.cell 1 (by simp)
    have x42 : w4.cell? ⟨w.heap.size, 2, none⟩ = some (.slice a2 n2 c2) := X4.cell 2 (by simp)
    obtain ⟨z0, y0, z1, y1, z2, y2, q0, q1, q2, _, rfl, _⟩ := id V4
    obtain ⟨s0, hs0⟩ : ∃ n, m.stops.length = n := ⟨_, rfl⟩
    obtain ⟨s1, hs1⟩ : ∃ n, m.trips.length = n := ⟨_, rfl⟩
    obtain ⟨s2, hs2⟩ : ∃ n, m.walks.length = n := ⟨_, rfl⟩
    rw [hs0, hs1, hs2] at V4 ⊢
    clear hs0 hs1 hs2
    have hbA : Bel w4 (w4.alloc (.cells #[.slice z0 s0 y0, .slice z1 s1 y1, .slice z2 s2 y2] 49)) := bel_alloc (Bel.refl _) _
    have Y4 : Blk (w4.alloc (.cells #[.slice z0 s0 y0, .slice z1 s1 y1, .slice z2 s2 y2] 49)) w4.heap.size [.slice z0 s0 y0, .slice z1 s1 y1, .slice z2 s2 y2] := Blk.new w4 [.slice z0 s0 y0, .slice z1 s1 y1, .slice z2 s2 y2] _
    have V4' := V4.bel hbA
    go_wp2_with fail
    refine (linesOk_r _ m d4 R _ V4' HL.out HR.out).mono ?_
    rintro e w5 ⟨rfl, hb5⟩
    have S5 := bel_step S4 (bel_step hbA hb5)
    have X5 := (X4.bel hbA).bel hb5
    have Y5 := Y4.bel hb5
    have V5 := V4'.bel hb5
    clear X4 Y4 V4' V4 hb5 hbA
    have hR : ∀ w', Bel w5 w' → w'.cell? ⟨w.heap.size, 0, none⟩ = some (.slice a0 n0 c0) ∧ w'.cell? ⟨w.heap.size, 1, none⟩ = some (.slice a1 n1 c1) ∧ w'.cell? ⟨w.heap.size, 2, none⟩ = some (.slice a2 n2 c2) ∧ w'.cell? ⟨w4.heap.size, 0, none⟩ = some (.slice z0 s0 y0) ∧ w'.cell? ⟨w4.heap.size, 1, none⟩ = some (.slice z1 s1 y1) ∧ w'.cell? ⟨w4.heap.size, 2, none⟩ = some (.slice z2 s2 y2) :=
      fun w' h => ⟨(X5.bel h).cell 0 (by simp), (X5.bel h).cell 1 (by simp), (X5.bel h).cell 2 (by simp), (Y5.bel h).cell 0 (by simp), (Y5.bel h).cell 1 (by simp), (Y5.bel h).cell 2 (by simp)⟩
    have g0 : Bel w5 w5 := Bel.refl _
    have hM5 : ∀ w', Bel w5 w' → LinV w' (.agg #[.slice a0 n0 c0, .slice a1 n1 c1, .slice a2 n2 c2]) m bs := fun w' h => hV'.bel (bel_step S5 h)
    have hX5 : ∀ w', Bel w5 w' → LinV w' (.agg #[.slice z0 s0 y0, .slice z1 s1 y1, .slice z2 s2 y2]) m d4 := fun w' h => V5.bel h
    clear X5 Y5 V5
    go_wp2
    go_region_held3 (fun w' => Bel w5 w') (with_reducible (repeat (first | assumption | exact g0 | refine Bel.drew ?_ | refine bel_then (by assumption) ?_)))
      (first
        | (go_at_call 16; refine (toLines_v _ m bs _ (hM5 _ (by assumption)) HL.out).mono ?_; rintro e w6 ⟨v6, d6, rfl, V6, _, hb6⟩)
        | (go_at_call 18; refine (eqLines_v _ _ m d4 d6 _ (hX5 _ (by assumption)) V6 HL.out).mono ?_; rintro e w7 ⟨rfl, hb7⟩))
    have hH : Bel w5 w7 := by assumption
    go_wp2
    go_ret
    exact ⟨rfl, bel_step S5 hH⟩
  · obtain ⟨r, Hr⟩ : ∃ r, Hid (szR 1048576 (linesSz m) = r) := ⟨_, (rfl : szR 1048576 (linesSz m) = _)⟩
    have hr0 : r = -1 := by rw [← Hr.out]; exact szR_neg hf
    subst hr0
    clear hf
    go_enter Try.func4, Try.ntmps4
    go_wp2_with fail
    refine (szLines_v _ m bs _ _ (hV'.bel S0) hN (by omega) (by omega)).mono ?_
    rintro e w1 ⟨rfl, hb1⟩
    rw [Hr.out]
    go_wp2
    go_ret
    exact ⟨rfl, bel_step S0 hb1⟩

end Go.Proofs.Ytkmccjjghpnejaa
