/-
  The walk of the law: for every graph and every two lists of numbers Common answers as its model does, and what was handed in stays as it was.
-/
import Derived.Test.YtbfaofgdnobheaaCmnS
import Derived.Test.YtbfaofgdnobheaaCmnJ
import Derived.Test.YtbfaofgdnobheaaDInt64
import Derived.Test.YtbfaofgdnobheaaGphL
import Derived.Deep.RegionHeld3
namespace Go.Proofs.Ytbfaofgdnobheaa
open Go.RowKit

set_option maxRecDepth 100000 in
set_option maxHeartbeats 1000000 in
theorem lawFnExactCommon_any (v : Value) (m : GraphD) (bs : List Nat) (ar : Option Addr) (cr : Nat) (l : List Int) (br : List Nat) (au : Option Addr) (cu : Nat) (u : List Int) (bu : List Nat) (w : World) (hV : GphV w v m bs) (hN : GphN m) (hI : Ints w ar l br) (him : l.length ≤ maxLen) (hJ : Ints w au u bu) (hju : u.length ≤ maxLen) :
    Calls Try.prog 4 #[v, .slice ar l.length cr, .slice au u.length cu] w fun e w' => e = .returned (.bool true) ∧ Bel w w' := by
  obtain ⟨q, HLn⟩ : ∃ q, Hid (l.length = q) := ⟨_, (rfl : l.length = _)⟩
  obtain ⟨p, HUn⟩ : ∃ q, Hid (u.length = q) := ⟨_, (rfl : u.length = _)⟩
  rw [HLn.out] at him ⊢
  rw [HUn.out] at hju ⊢
  unfold maxLen at him hju
  have hV' := hV
  obtain ⟨a0, c0, a1, c1, a2, c2, b0, b1, b2, _, rfl, _, _, _⟩ := hV
  obtain ⟨n0, hn0⟩ : ∃ n, m.places.length = n := ⟨_, rfl⟩
  obtain ⟨n1, hn1⟩ : ∃ n, m.roads.length = n := ⟨_, rfl⟩
  obtain ⟨n2, hn2⟩ : ∃ n, m.bans.length = n := ⟨_, rfl⟩
  rw [hn0, hn1, hn2] at hV' ⊢
  clear hn0 hn1 hn2
  have X0 : Blk (w.alloc (.cells #[.slice a0 n0 c0, .slice a1 n1 c1, .slice a2 n2 c2] 32)) w.heap.size [.slice a0 n0 c0, .slice a1 n1 c1, .slice a2 n2 c2] := Blk.new w [.slice a0 n0 c0, .slice a1 n1 c1, .slice a2 n2 c2] _
  have S0 : Bel w (w.alloc (.cells #[.slice a0 n0 c0, .slice a1 n1 c1, .slice a2 n2 c2] 32)) := bel_alloc (Bel.refl _) _
  by_cases hqn : (q : Int) ≤ 1048576
  rotate_left
  · have hqd : decide ((1048576 : Int) < (q : Int)) = true := by simp; omega
    go_enter Try.func4, Try.ntmps4
    go_wp2
    go_ret
    exact ⟨rfl, S0⟩
  have hqd : decide ((1048576 : Int) < (q : Int)) = false := by simp; omega
  have hq20 : q ≤ 1048576 := by omega
  by_cases hpn : (p : Int) ≤ 1048576
  rotate_left
  · have hpd : decide ((1048576 : Int) < (p : Int)) = true := by simp; omega
    go_enter Try.func4, Try.ntmps4
    go_wp2
    go_ret
    exact ⟨rfl, S0⟩
  have hpd : decide ((1048576 : Int) < (p : Int)) = false := by simp; omega
  have hp20 : p ≤ 1048576 := by omega
  by_cases hf : ((graphSz m : Nat) : Int) ≤ 1048576
  · have hL := gphQ_of (g := m) (by omega)
    have hs : szR 1048576 (graphSz m) = 1048576 - graphSz m := szR_pos hf
    obtain ⟨r, Hr⟩ : ∃ r, Hid (szR 1048576 (graphSz m) = r) := ⟨_, (rfl : szR 1048576 (graphSz m) = _)⟩
    have hr0 : 0 ≤ r := by rw [← Hr.out, hs]; omega
    have HL : Hid (GphQ m) := hL
    obtain ⟨R, HR⟩ : ∃ R, Hid (cmQ m l u = R) := ⟨_, (rfl : cmQ m l u = _)⟩
    have hRR : (R != R) = false := by simp
    clear hs hf hL
    go_enter Try.func4, Try.ntmps4
    go_wp2_with fail
    refine (szGraph_v _ m bs _ _ (hV'.bel S0) hN (by omega) (by omega)).mono ?_
    rintro e w1 ⟨rfl, hb1⟩
    rw [Hr.out]
    have S1 := bel_step S0 hb1
    have X1 := X0.bel hb1
    have x10 : w1.cell? ⟨w.heap.size, 0, none⟩ = some (.slice a0 n0 c0) := X1.cell 0 (by simp)
    have x11 : w1.cell? ⟨w.heap.size, 1, none⟩ = some (.slice a1 n1 c1) := X1.cell 1 (by simp)
    have x12 : w1.cell? ⟨w.heap.size, 2, none⟩ = some (.slice a2 n2 c2) := X1.cell 2 (by simp)
    go_wp2_with fail
    refine (toGraph_v _ m bs _ (hV'.bel S1) HL.out).mono ?_
    rintro e w2 ⟨v2, d2, rfl, V2, _, hb2⟩
    have S2 := bel_step S1 hb2
    have X2 := X1.bel hb2
    clear X1
    have x20 : w2.cell? ⟨w.heap.size, 0, none⟩ = some (.slice a0 n0 c0) := X2.cell 0 (by simp)
    have x21 : w2.cell? ⟨w.heap.size, 1, none⟩ = some (.slice a1 n1 c1) := X2.cell 1 (by simp)
    have x22 : w2.cell? ⟨w.heap.size, 2, none⟩ = some (.slice a2 n2 c2) := X2.cell 2 (by simp)
    go_wp2_with fail
    refine (toInt64S_any _ _ _ l br _ (hI.bel intE S2) HLn.out hq20).mono ?_
    rintro e wA ⟨BA, dA, rfl, IA, _, hbA'⟩
    have SA0 := bel_step S2 hbA'
    go_wp2_with fail
    refine (toInt64S_any _ _ _ u bu _ (hJ.bel intE SA0) HUn.out hp20).mono ?_
    rintro e wC ⟨BC, dC, rfl, IC, _, hbC'⟩
    have SA := bel_step SA0 hbC'
    go_wp2_with fail
    refine (specCommon_any _ m d2 _ _ _ l dA _ _ _ u dC _ ((V2.bel hbA').bel hbC') HL.out (IA.bel intE hbC') HLn.out hq20 IC HUn.out hp20).mono ?_
    rintro e w3 ⟨rfl, hb3⟩
    rw [HR.out]
    have S3 := bel_step SA hb3
    have X3 := ((X2.bel hbA').bel hbC').bel hb3
    clear X2
    have x30 : w3.cell? ⟨w.heap.size, 0, none⟩ = some (.slice a0 n0 c0) := X3.cell 0 (by simp)
    have x31 : w3.cell? ⟨w.heap.size, 1, none⟩ = some (.slice a1 n1 c1) := X3.cell 1 (by simp)
    have x32 : w3.cell? ⟨w.heap.size, 2, none⟩ = some (.slice a2 n2 c2) := X3.cell 2 (by simp)
    go_wp2_with fail
    refine (toGraph_v _ m bs _ (hV'.bel S3) HL.out).mono ?_
    rintro e w4 ⟨v4, d4, rfl, V4, _, hb4⟩
    have S4 := bel_step S3 hb4
    have X4 := X3.bel hb4
    clear X3
    have x40 : w4.cell? ⟨w.heap.size, 0, none⟩ = some (.slice a0 n0 c0) := X4.cell 0 (by simp)
    have x41 : w4.cell? ⟨w.heap.size, 1, none⟩ = some (.slice a1 n1 c1) := X4.cell 1 (by simp)
    have x42 : w4.cell? ⟨w.heap.size, 2, none⟩ = some (.slice a2 n2 c2) := X4.cell 2 (by simp)
    obtain ⟨z0, y0, z1, y1, z2, y2, q0, q1, q2, _, rfl, _⟩ := id V4
    obtain ⟨s0, hs0⟩ : ∃ n, m.places.length = n := ⟨_, rfl⟩
    obtain ⟨s1, hs1⟩ : ∃ n, m.roads.length = n := ⟨_, rfl⟩
    obtain ⟨s2, hs2⟩ : ∃ n, m.bans.length = n := ⟨_, rfl⟩
    rw [hs0, hs1, hs2] at V4 ⊢
    clear hs0 hs1 hs2
    have hbA : Bel w4 (w4.alloc (.cells #[.slice z0 s0 y0, .slice z1 s1 y1, .slice z2 s2 y2] 40)) := bel_alloc (Bel.refl _) _
    have Y4 : Blk (w4.alloc (.cells #[.slice z0 s0 y0, .slice z1 s1 y1, .slice z2 s2 y2] 40)) w4.heap.size [.slice z0 s0 y0, .slice z1 s1 y1, .slice z2 s2 y2] := Blk.new w4 [.slice z0 s0 y0, .slice z1 s1 y1, .slice z2 s2 y2] _
    have V4' := V4.bel hbA
    go_wp2_with fail
    refine (toInt64S_any _ _ _ l br _ (hI.bel intE (bel_step S4 hbA)) HLn.out hq20).mono ?_
    rintro e wB0 ⟨BB, dB, rfl, IB0, _, hbB0⟩
    have hbD := bel_step hbA hbB0
    go_wp2_with fail
    refine (toInt64S_any _ _ _ u bu _ (hJ.bel intE (bel_step S4 hbD)) HUn.out hp20).mono ?_
    rintro e wB ⟨BD, dD, rfl, ID, _, hbB1⟩
    have hbB' := bel_step hbB0 hbB1
    have IB := IB0.bel intE hbB1
    have hbC := bel_step hbA hbB'
    have YB := Y4.bel hbB'
    have yB0 : wB.cell? ⟨w4.heap.size, 0, none⟩ = some (.slice z0 s0 y0) := YB.cell 0 (by simp)
    have yB1 : wB.cell? ⟨w4.heap.size, 1, none⟩ = some (.slice z1 s1 y1) := YB.cell 1 (by simp)
    have yB2 : wB.cell? ⟨w4.heap.size, 2, none⟩ = some (.slice z2 s2 y2) := YB.cell 2 (by simp)
    have yBl := YB.lt
    go_wp2_with fail
    refine (commonI_any _ m d4 _ _ _ l dB _ _ _ u dD _ (V4'.bel hbB') HL.out IB HLn.out hq20 ID HUn.out hp20).mono ?_
    rintro e w5 ⟨rfl, hb5⟩
    rw [HR.out]
    have S5 := bel_step S4 (bel_step hbC hb5)
    have X5 := (X4.bel hbC).bel hb5
    have Y5 := YB.bel hb5
    have V5 := (V4'.bel hbB').bel hb5
    have I5 : Hid (Ints w5 (some ⟨BB, 0, none⟩) l dB) := IB.bel intE hb5
    have J5 : Hid (Ints w5 (some ⟨BD, 0, none⟩) u dD) := ID.bel intE hb5
    clear YB IB ID IB0 hbB0 hbB1 hbD yB0 yB1 yB2 yBl hbC hbB'
    clear X4 Y4 V4' V4 hb5 hbA
    have hR : ∀ w', Bel w5 w' → w'.cell? ⟨w.heap.size, 0, none⟩ = some (.slice a0 n0 c0) ∧ w'.cell? ⟨w.heap.size, 1, none⟩ = some (.slice a1 n1 c1) ∧ w'.cell? ⟨w.heap.size, 2, none⟩ = some (.slice a2 n2 c2) ∧ w'.cell? ⟨w4.heap.size, 0, none⟩ = some (.slice z0 s0 y0) ∧ w'.cell? ⟨w4.heap.size, 1, none⟩ = some (.slice z1 s1 y1) ∧ w'.cell? ⟨w4.heap.size, 2, none⟩ = some (.slice z2 s2 y2) :=
      fun w' h => ⟨(X5.bel h).cell 0 (by simp), (X5.bel h).cell 1 (by simp), (X5.bel h).cell 2 (by simp), (Y5.bel h).cell 0 (by simp), (Y5.bel h).cell 1 (by simp), (Y5.bel h).cell 2 (by simp)⟩
    have g0 : Bel w5 w5 := Bel.refl _
    have hM5 : ∀ w', Bel w5 w' → GphV w' (.agg #[.slice a0 n0 c0, .slice a1 n1 c1, .slice a2 n2 c2]) m bs := fun w' h => hV'.bel (bel_step S5 h)
    have hX5 : ∀ w', Bel w5 w' → GphV w' (.agg #[.slice z0 s0 y0, .slice z1 s1 y1, .slice z2 s2 y2]) m d4 := fun w' h => V5.bel h
    clear X5 Y5 V5
    go_wp2
    go_region_held3 (fun w' => Bel w5 w') (with_reducible (repeat (first | assumption | exact g0 | refine Bel.drew ?_ | refine bel_then (by assumption) ?_)))
      (first
        | (go_at_call 14; refine (toGraph_v _ m bs _ (hM5 _ (by assumption)) HL.out).mono ?_; rintro e w6 ⟨v6, d6, rfl, V6, _, hb6⟩)
        | (go_at_call 17; refine (eqGraph_v _ _ m d4 d6 _ (hX5 _ (by assumption)) V6 HL.out).mono ?_; rintro e w7 ⟨rfl, hb7⟩))
    have hH : Bel w5 w7 := by assumption
    have S7 := bel_step S5 hH
    have I7 : Hid (Ints w7 (some ⟨BB, 0, none⟩) l dB) := I5.out.bel intE hH
    have J7 : Hid (Ints w7 (some ⟨BD, 0, none⟩) u dD) := J5.out.bel intE hH
    clear hR hM5 hX5
    go_wp2_with fail
    refine (toInt64S_any _ _ _ l br _ (hI.bel intE S7) HLn.out hq20).mono ?_
    rintro e w8 ⟨B8, d8, rfl, I8, _, hb8⟩
    go_wp2_with fail
    refine (eqInt64S_same _ _ _ _ _ l dB d8 _ (I7.out.bel intE hb8) I8 HLn.out hq20).mono ?_
    rintro e w9 ⟨rfl, hb9⟩
    have S9 := bel_step S7 (bel_step hb8 hb9)
    have J9 : Hid (Ints w9 (some ⟨BD, 0, none⟩) u dD) := (J7.out.bel intE hb8).bel intE hb9
    go_wp2_with fail
    refine (toInt64S_any _ _ _ u bu _ (hJ.bel intE S9) HUn.out hp20).mono ?_
    rintro e wE ⟨BE, dE, rfl, IE, _, hbE⟩
    go_wp2_with fail
    refine (eqInt64S_same _ _ _ _ _ u dD dE _ (J9.out.bel intE hbE) IE HUn.out hp20).mono ?_
    rintro e wF ⟨rfl, hbF⟩
    go_wp2
    go_ret
    exact ⟨rfl, bel_step S9 (bel_step hbE hbF)⟩
  · obtain ⟨r, Hr⟩ : ∃ r, Hid (szR 1048576 (graphSz m) = r) := ⟨_, (rfl : szR 1048576 (graphSz m) = _)⟩
    have hr0 : r = -1 := by rw [← Hr.out]; exact szR_neg hf
    subst hr0
    clear hf
    go_enter Try.func4, Try.ntmps4
    go_wp2_with fail
    refine (szGraph_v _ m bs _ _ (hV'.bel S0) hN (by omega) (by omega)).mono ?_
    rintro e w1 ⟨rfl, hb1⟩
    rw [Hr.out]
    go_wp2
    go_ret
    exact ⟨rfl, bel_step S0 hb1⟩

end Go.Proofs.Ytbfaofgdnobheaa
