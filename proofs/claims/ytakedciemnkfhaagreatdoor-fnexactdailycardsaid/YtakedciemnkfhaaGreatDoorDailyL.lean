/-
  The walk of the law: for every graph, every list of hours, every two places and every start Daily answers as its model does; what was handed in stays as it was; the answer shares no memory with it nor with the answer of another call.
-/
import Derived.Test.YtakedciemnkfhaaGreatDoorDlyS
import Derived.Test.YtakedciemnkfhaaGreatDoorEndF
import Derived.Test.YtakedciemnkfhaaGreatDoorPthL
import Derived.Test.YtakedciemnkfhaaGreatDoorGU
import Derived.Test.YtakedciemnkfhaaGreatDoorHA
import Derived.Test.YtakedciemnkfhaaGreatDoorGT
import Derived.Deep.RegionHeld3
namespace Go.Proofs.YtakedciemnkfhaaGreatDoor
open Go.RowKit

theorem gMk_bd {g : GraphD} (h : GphQ g) : 0 < gMk g ∧ gMk g ≤ 20000000 := by
 obtain ⟨h0, h1, h2⟩ := h
 unfold gMk
 omega

set_option maxRecDepth 100000 in
set_option maxHeartbeats 4000000 in
theorem lawFnExactDaily_of (hBk : SbC) (v : Value) (m : GraphD) (bs : List Nat) (ar : Option Addr) (cr : Nat) (l : List Int) (br : List Nat) (si ti st : Int) (w : World) (hT : Winds w) (hV : GphV w v m bs) (hN : GphN m) (hI : Ints w ar l br) (him : l.length ≤ maxLen) :
  Calls Tryz.prog 3 #[v, .slice ar l.length cr, .int .i64 si, .int .i64 ti, .int .i64 st] w fun e w' => e = .returned (.bool true) ∧ Bel w w' := by
 obtain ⟨q, HLn⟩ : ∃ q, Hid (l.length = q) := ⟨_, (rfl : l.length = _)⟩
 rw [HLn.out] at him ⊢
 unfold maxLen at him
 have hV' := hV
 obtain ⟨a0, c0, a1, c1, a2, c2, b0, b1, b2, _, rfl, _, _, _⟩ := hV
 obtain ⟨n0, hn0⟩ : ∃ n, m.places.length = n := ⟨_, rfl⟩
 obtain ⟨n1, hn1⟩ : ∃ n, m.roads.length = n := ⟨_, rfl⟩
 obtain ⟨n2, hn2⟩ : ∃ n, m.bans.length = n := ⟨_, rfl⟩
 rw [hn0, hn1, hn2] at hV' ⊢
 clear hn0 hn1 hn2
 have X0 : Blk (w.alloc (.cells #[.slice a0 n0 c0, .slice a1 n1 c1, .slice a2 n2 c2] 26)) w.heap.size [.slice a0 n0 c0, .slice a1 n1 c1, .slice a2 n2 c2] := Blk.new w [.slice a0 n0 c0, .slice a1 n1 c1, .slice a2 n2 c2] _
 have S0 : Bel w (w.alloc (.cells #[.slice a0 n0 c0, .slice a1 n1 c1, .slice a2 n2 c2] 26)) := bel_alloc (Bel.refl _) _
 by_cases hqn : (q : Int) ≤ 1048576
 rotate_left
 ·have hqd : decide ((1048576 : Int) < (q : Int)) = true := by simp; omega
  go_enter Tryz.func3, Tryz.ntmps3
  go_wp2
  go_ret
  exact ⟨rfl, S0⟩
 have hqd : decide ((1048576 : Int) < (q : Int)) = false := by simp; omega
 have hq20 : q ≤ 1048576 := by omega
 by_cases hf : ((graphSz m : Nat) : Int) ≤ 1048576
 rotate_left
 ·obtain ⟨r, Hr⟩ : ∃ r, Hid (szR 1048576 (graphSz m) = r) := ⟨_, (rfl : szR 1048576 (graphSz m) = _)⟩
  have hr0 : r = -1 := by rw [← Hr.out]; exact szR_neg hf
  subst hr0
  clear hf
  go_enter Tryz.func3, Tryz.ntmps3
  go_wp2_with fail
  refine (szGraph_v _ m bs _ _ (hV'.bel S0) hN (by omega) (by omega)).mono ?_
  rintro e w1 ⟨rfl, hb1⟩
  rw [Hr.out]
  go_wp2
  go_ret
  exact ⟨rfl, bel_step S0 hb1⟩
 ·have hL := gphQ_of (g := m) (by omega)
  have hs : szR 1048576 (graphSz m) = 1048576 - graphSz m := szR_pos hf
  obtain ⟨r, Hr⟩ : ∃ r, Hid (szR 1048576 (graphSz m) = r) := ⟨_, (rfl : szR 1048576 (graphSz m) = _)⟩
  have hr0 : 0 ≤ r := by rw [← Hr.out, hs]; omega
  have HL : Hid (GphQ m) := hL
  obtain ⟨hlen, hin⟩ := dlQ_facts m l si ti st
  obtain ⟨R, HQ⟩ : ∃ L, Hid (dlQ m l si ti st = L) := ⟨_, (rfl : dlQ m l si ti st = _)⟩
  rw [HQ.out] at hin hlen
  have HI : Hid (∀ x ∈ R.roads, x ≤ 10000) := hin
  obtain ⟨ok, Hok⟩ : ∃ n, Hid (R.ok = n) := ⟨_, (rfl : R.ok = _)⟩
  obtain ⟨n, Hn⟩ : ∃ n, Hid (R.roads.length = n) := ⟨_, (rfl : R.roads.length = _)⟩
  obtain ⟨tm, Htm⟩ : ∃ n, Hid (R.time = n) := ⟨_, (rfl : R.time = _)⟩
  obtain ⟨ln, Hln⟩ : ∃ n, Hid (R.len = n) := ⟨_, (rfl : R.len = _)⟩
  obtain ⟨L, HLL⟩ : ∃ n, Hid (R.roads.map Int.ofNat = n) := ⟨_, (rfl : R.roads.map Int.ofNat = _)⟩
  have hLn : L.length = n := by rw [← HLL.out, List.length_map]; exact Hn.out
  rw [Hn.out] at hlen
  have HInt : Hid (∀ {base : Nat} {w : World} {e : Ending}, PthO base w R e → ∃ a c bs, e = .returned (pthV ok a n c tm ln) ∧ Ints w a L bs ∧ (∀ x ∈ bs, base ≤ x ∧ x < w.heap.size) ∧ ∀ x ∈ bs, ∀ j, w.frozen? ⟨x, j, none⟩ = false) := fun h => by
   have k := h.ints HI.out
   rw [Hok.out, Hn.out, Htm.out, Hln.out, HLL.out] at k
   exact k
  clear hs hf hL hin HLL Hok Hn Htm Hln
  go_enter Tryz.func3, Tryz.ntmps3
  go_wp2_with fail
  refine (szGraph_v _ m bs _ _ (hV'.bel S0) hN (by omega) (by omega)).mono ?_
  rintro e w1 ⟨rfl, hb1⟩
  rw [Hr.out]
  have S1 := bel_step S0 hb1
  have X1 := X0.bel hb1
  have x0 : w1.cell? ⟨w.heap.size, 0, none⟩ = some (.slice a0 n0 c0) := X1.cell 0 (by simp)
  have x1 : w1.cell? ⟨w.heap.size, 1, none⟩ = some (.slice a1 n1 c1) := X1.cell 1 (by simp)
  have x2 : w1.cell? ⟨w.heap.size, 2, none⟩ = some (.slice a2 n2 c2) := X1.cell 2 (by simp)
  have xl := X1.lt
  go_wp2_with fail
  refine (toGraph_v _ m bs _ (hV'.bel S1) HL.out).mono ?_
  rintro e w2 ⟨v2, d2, rfl, V2, _, hb2⟩
  have S2 := bel_step S1 hb2
  have X2 := X1.bel hb2
  clear X1 x0 x1 x2 xl
  go_wp2_with fail
  refine (toInt64S_any _ _ _ l br _ (hI.bel intE S2) HLn.out hq20).mono ?_
  rintro e wA ⟨BA, dA, rfl, IA, _, hbA'⟩
  go_wp2_with fail
  refine (specDaily_of hBk _ m d2 _ _ _ l dA si ti st _ (V2.bel hbA') HL.out IA HLn.out).mono ?_
  rintro e w3 ⟨O3, hb3'⟩
  have hb3 := bel_step hbA' hb3'
  clear hbA' hb3' IA
  rw [HQ.out] at O3
  obtain ⟨a3, c3, e3, rfl, I3, B3, _⟩ := HInt.out O3
  have S3 := bel_step S2 hb3
  have X3 := X2.bel hb3
  clear X2 O3 V2
  have x0 : w3.cell? ⟨w.heap.size, 0, none⟩ = some (.slice a0 n0 c0) := X3.cell 0 (by simp)
  have x1 : w3.cell? ⟨w.heap.size, 1, none⟩ = some (.slice a1 n1 c1) := X3.cell 1 (by simp)
  have x2 : w3.cell? ⟨w.heap.size, 2, none⟩ = some (.slice a2 n2 c2) := X3.cell 2 (by simp)
  have xl := X3.lt
  obtain ⟨V3, HV3⟩ : ∃ X, Hid (X = w3.alloc (.cells #[.bool ok, .slice a3 n c3, .int .i64 tm, .int .i64 ln] 30)) := ⟨_, (rfl : w3.alloc (.cells #[.bool ok, .slice a3 n c3, .int .i64 tm, .int .i64 ln] 30) = _)⟩
  have hbV3 : Bel w3 V3 := by rw [HV3.out]; exact bel_alloc (Bel.refl _) _
  have P3 : Blk V3 w3.heap.size [.bool ok, .slice a3 n c3, .int .i64 tm, .int .i64 ln] := by rw [HV3.out]; exact Blk.new w3 [.bool ok, .slice a3 n c3, .int .i64 tm, .int .i64 ln] _
  obtain ⟨Pw, HPw⟩ : ∃ k, Hid (w3.heap.size = k) := ⟨_, (rfl : w3.heap.size = _)⟩
  rw [HPw.out] at P3
  have SV := bel_step S3 hbV3
  have P3l : Hid (Pw < V3.heap.size) := P3.lt
  have XV := X3.bel hbV3
  have IV := I3.bel intE hbV3
  have X3lt : Hid (w.heap.size < Pw) := (by rw [← HPw.out]; exact X3.lt : w.heap.size < Pw)
  have B3' : ∀ x ∈ e3, x < Pw := fun x hx => by rw [← HPw.out]; exact (B3 x hx).2
  go_wp2_with fail
  rw [← HV3.out, HPw.out]
  refine (toGraph_v _ m bs _ (hV'.bel SV) HL.out).mono ?_
  rintro e w4 ⟨v4, d4, rfl, V4, F4, hb4⟩
  have S4 := bel_step SV hb4
  have X4 := XV.bel hb4
  have P4 := P3.bel hb4
  have I4 := IV.bel intE hb4
  clear X3 x0 x1 x2 xl XV P3 IV I3
  obtain ⟨z0, y0, z1, y1, z2, y2, q0, q1, q2, _, rfl, _⟩ := id V4
  obtain ⟨s0, hs0⟩ : ∃ n, m.places.length = n := ⟨_, rfl⟩
  obtain ⟨s1, hs1⟩ : ∃ n, m.roads.length = n := ⟨_, rfl⟩
  obtain ⟨s2, hs2⟩ : ∃ n, m.bans.length = n := ⟨_, rfl⟩
  rw [hs0, hs1, hs2] at V4 ⊢
  clear hs0 hs1 hs2
  obtain ⟨U4, HU4⟩ : ∃ X, Hid (X = w4.alloc (.cells #[.slice z0 s0 y0, .slice z1 s1 y1, .slice z2 s2 y2] 36)) := ⟨_, (rfl : w4.alloc (.cells #[.slice z0 s0 y0, .slice z1 s1 y1, .slice z2 s2 y2] 36) = _)⟩
  have hbA : Bel w4 U4 := by rw [HU4.out]; exact bel_alloc (Bel.refl _) _
  have Y4 : Blk U4 w4.heap.size [.slice z0 s0 y0, .slice z1 s1 y1, .slice z2 s2 y2] := by rw [HU4.out]; exact Blk.new w4 [.slice z0 s0 y0, .slice z1 s1 y1, .slice z2 s2 y2] _
  obtain ⟨Bx, HBx⟩ : ∃ k, Hid (w4.heap.size = k) := ⟨_, (rfl : w4.heap.size = _)⟩
  rw [HBx.out] at Y4
  have V4' := V4.bel hbA
  have hPB : Pw < Bx := by rw [← HBx.out]; exact P4.lt
  go_upto_region 9 with fail
  rw [← HU4.out, HBx.out]
  go_wp2_with fail
  refine (toInt64S_any _ _ _ l br _ (hI.bel intE (bel_step S4 hbA)) HLn.out hq20).mono ?_
  rintro e wB ⟨BB, dB, rfl, IB, FB, hbB⟩
  have dBl : Hid (∀ x ∈ dB, Bx < x ∧ x < wB.heap.size) := (fun x hx => by have h := FB.new x hx; have h2 := Y4.lt; exact ⟨by omega, h.2⟩ : ∀ x ∈ dB, Bx < x ∧ x < wB.heap.size)
  have hbA : Bel w4 wB := bel_step hbA hbB
  have Y4 := Y4.bel hbB
  have V4' := V4'.bel hbB
  clear HU4
  have u0 : wB.cell? ⟨Bx, 0, none⟩ = some (.slice z0 s0 y0) := Y4.cell 0 (by simp)
  have u1 : wB.cell? ⟨Bx, 1, none⟩ = some (.slice z1 s1 y1) := Y4.cell 1 (by simp)
  have u2 : wB.cell? ⟨Bx, 2, none⟩ = some (.slice z2 s2 y2) := Y4.cell 2 (by simp)
  have ul := Y4.lt
  go_wp2_with fail
  refine (dailyI_any _ m d4 _ _ _ l dB si ti st _ (hT.bel (bel_step S4 hbA)) V4' HL.out IB HLn.out hq20).mono ?_
  rintro e w5 ⟨O5, hb5⟩
  rw [HQ.out] at O5
  obtain ⟨a5, c5, e5, rfl, I5, B5, R5⟩ := HInt.out O5
  have h45 := bel_step hbA hb5
  have S5 := bel_step S4 h45
  have X5 := X4.bel h45
  have P5 := P4.bel h45
  have Y5 := Y4.bel hb5
  have W5 := V4'.bel hb5
  have I53 := I4.bel intE h45
  have F5 := F4.bel h45
  have IB5 := IB.bel intE hb5
  have RB5 := (FB.bel hb5).free
  have dBe : Hid (∀ x ∈ dB, x ∉ e5) := (fun x hx hy => by have h := (dBl.out x hx).2; have h2 := (B5 x hy).1; omega : ∀ x ∈ dB, x ∉ e5)
  have dBw : Hid (∀ x ∈ dB, x < w5.heap.size) := (fun x hx => bel_lt hb5 (dBl.out x hx).2 : ∀ x ∈ dB, x < w5.heap.size)
  clear IB FB
  have F4n : Hid (∀ x ∈ d4, Pw ≤ x ∧ x < Bx) := (fun x hx => by have h := F4.new x hx; rw [← HBx.out]; have h2 := hbV3.out.size; rw [HPw.out] at h2; exact ⟨by omega, h.2⟩ : ∀ x ∈ d4, Pw ≤ x ∧ x < Bx)
  have F4n2 : Hid (∀ x ∈ d4, Pw < x) := (fun x hx => by have h := (F4.new x hx).1; have h2 := P3l.out; omega : ∀ x ∈ d4, Pw < x)
  have B5' : ∀ x ∈ e5, Bx < x := fun x hx => by have h := (B5 x hx).1; have h2 := Y4.lt; omega
  clear u0 u1 u2 ul X4 P4 Y4 V4' V4 O5 I4
  have p5w : ∃ X, X = w5.heap.size := ⟨_, rfl⟩
  obtain ⟨V5, HV5⟩ : ∃ X, Hid (X = w5.alloc (.cells #[.bool ok, .slice a5 n c5, .int .i64 tm, .int .i64 ln] 30)) := ⟨_, (rfl : w5.alloc (.cells #[.bool ok, .slice a5 n c5, .int .i64 tm, .int .i64 ln] 30) = _)⟩
  have hbV5 : Bel w5 V5 := by rw [HV5.out]; exact bel_alloc (Bel.refl _) _
  have G5 : Blk V5 w5.heap.size [.bool ok, .slice a5 n c5, .int .i64 tm, .int .i64 ln] := by rw [HV5.out]; exact Blk.new w5 [.bool ok, .slice a5 n c5, .int .i64 tm, .int .i64 ln] _
  obtain ⟨Pg, HPg⟩ : ∃ k, Hid (w5.heap.size = k) := ⟨_, (rfl : w5.heap.size = _)⟩
  rw [HPg.out] at G5
  have dBp : Hid (∀ x ∈ dB, x < Pg) := (fun x hx => by rw [← HPg.out]; exact dBw.out x hx : ∀ x ∈ dB, x < Pg)
  have B5l : ∀ x ∈ e5, x < Pg := fun x hx => by rw [← HPg.out]; exact (B5 x hx).2
  have hBP : Bx < Pg := by rw [← HPg.out]; exact Y5.lt
  have SV5 := bel_step S5 hbV5
  have XV5 := X5.bel hbV5
  have PV5 := P5.bel hbV5
  have YV5 := Y5.bel hbV5
  have WV5 := W5.bel hbV5
  have IV53 := I53.bel intE hbV5
  have IV55 := I5.bel intE hbV5
  have FV5 := F5.bel hbV5
  have RV5 : ∀ x ∈ e5, ∀ j, V5.frozen? ⟨x, j, none⟩ = false := fun x hx j => by rw [hbV5.out.frozen (p := ⟨x, j, none⟩) (B5 x hx).2]; exact R5 x hx j
  clear X5 P5 Y5 W5 I53 I5 F5 R5 p5w
  have IBV := IB5.bel intE hbV5
  have RBV : ∀ x ∈ dB, ∀ j, V5.frozen? ⟨x, j, none⟩ = false := fun x hx j => by rw [hbV5.out.frozen (p := ⟨x, j, none⟩) (IB5.lt intE x hx)]; exact RB5 x hx j
  clear IB5 RB5
  go_upto_region 11 with fail
  rw [← HV5.out, HPg.out]
  have gg0 : V5.cell? ⟨Pg, 0, none⟩ = some (.bool ok) := G5.cell 0 (by simp)
  have gg1 : V5.cell? ⟨Pg, 1, none⟩ = some (.slice a5 n c5) := G5.cell 1 (by simp)
  have gg2 : V5.cell? ⟨Pg, 2, none⟩ = some (.int .i64 tm) := G5.cell 2 (by simp)
  have gg3 : V5.cell? ⟨Pg, 3, none⟩ = some (.int .i64 ln) := G5.cell 3 (by simp)
  have ggl := G5.lt
  have p0 : V5.cell? ⟨Pw, 0, none⟩ = some (.bool ok) := PV5.cell 0 (by simp)
  have p1 : V5.cell? ⟨Pw, 1, none⟩ = some (.slice a3 n c3) := PV5.cell 1 (by simp)
  have p2 : V5.cell? ⟨Pw, 2, none⟩ = some (.int .i64 tm) := PV5.cell 2 (by simp)
  have p3 : V5.cell? ⟨Pw, 3, none⟩ = some (.int .i64 ln) := PV5.cell 3 (by simp)
  have pl := PV5.lt
  go_wp2_with fail
  refine (eqPath_same ok n tm ln _ _ _ _ L _ _ _ IV55 IV53 hLn (by omega)).mono ?_
  rintro e w6 ⟨rfl, hb6⟩
  clear gg0 gg1 gg2 gg3 ggl p0 p1 p2 p3 pl
  have S6 := bel_step SV5 hb6
  have X6 := XV5.bel hb6
  have Y6 := YV5.bel hb6
  have W6 := WV5.bel hb6
  have hR : ∀ w', Bel w6 w' → w'.cell? ⟨w.heap.size, 0, none⟩ = some (.slice a0 n0 c0) ∧ w'.cell? ⟨w.heap.size, 1, none⟩ = some (.slice a1 n1 c1) ∧ w'.cell? ⟨w.heap.size, 2, none⟩ = some (.slice a2 n2 c2) ∧ w'.cell? ⟨Bx, 0, none⟩ = some (.slice z0 s0 y0) ∧ w'.cell? ⟨Bx, 1, none⟩ = some (.slice z1 s1 y1) ∧ w'.cell? ⟨Bx, 2, none⟩ = some (.slice z2 s2 y2) :=
   fun w' h => ⟨(X6.bel h).cell 0 (by simp), (X6.bel h).cell 1 (by simp), (X6.bel h).cell 2 (by simp), (Y6.bel h).cell 0 (by simp), (Y6.bel h).cell 1 (by simp), (Y6.bel h).cell 2 (by simp)⟩
  have g0 : Bel w6 w6 := Bel.refl _
  have hM5 : ∀ w', Bel w6 w' → GphV w' (.agg #[.slice a0 n0 c0, .slice a1 n1 c1, .slice a2 n2 c2]) m bs := fun w' h => hV'.bel (bel_step S6 h)
  have hX5 : ∀ w', Bel w6 w' → GphV w' (.agg #[.slice z0 s0 y0, .slice z1 s1 y1, .slice z2 s2 y2]) m d4 := fun w' h => W6.bel h
  have KI : Hid (Ints w6 (some ⟨BB, 0, none⟩) l dB ∧ ∀ x ∈ dB, ∀ j, w6.frozen? ⟨x, j, none⟩ = false) := ⟨IBV.bel intE hb6, fun x hx j => by rw [hb6.out.frozen (p := ⟨x, j, none⟩) (IBV.lt intE x hx)]; exact RBV x hx j⟩
  clear IBV RBV
  have K : Hid (Blk w6 w.heap.size [.slice a0 n0 c0, .slice a1 n1 c1, .slice a2 n2 c2] ∧ Blk w6 Bx [.slice z0 s0 y0, .slice z1 s1 y1, .slice z2 s2 y2] ∧ GphV w6 (.agg #[.slice z0 s0 y0, .slice z1 s1 y1, .slice z2 s2 y2]) m d4 ∧ Ints w6 a3 L e3 ∧ Ints w6 a5 L e5 ∧ (∀ x ∈ e5, ∀ j, w6.frozen? ⟨x, j, none⟩ = false) ∧ Fresh V3 w6 d4 ∧ Blk w6 Pw [.bool ok, .slice a3 n c3, .int .i64 tm, .int .i64 ln] ∧ Blk w6 Pg [.bool ok, .slice a5 n c5, .int .i64 tm, .int .i64 ln]) :=
   ⟨X6, Y6, W6, IV53.bel intE hb6, IV55.bel intE hb6, fun x hx j => by rw [hb6.out.frozen (p := ⟨x, j, none⟩) (IV55.lt intE x hx)]; exact RV5 x hx j, FV5.bel hb6, PV5.bel hb6, G5.bel hb6⟩
  clear XV5 PV5 YV5 WV5 IV53 IV55 FV5 RV5 G5 X6 Y6 W6
  go_wp2
  go_region_held3 (fun w' => Bel w6 w') (with_reducible (repeat (first | assumption | exact g0 | refine Bel.drew ?_ | refine bel_then (by assumption) ?_)))
   (first
    | (go_at_call 7; refine (toGraph_v _ m bs _ (hM5 _ (by assumption)) HL.out).mono ?_; rintro e w7 ⟨v7, d7, rfl, V7, _, hb7⟩)
    | (go_at_call 11; refine (eqGraph_v _ _ m d4 d7 _ (hX5 _ (by assumption)) V7 HL.out).mono ?_; rintro e w8 ⟨rfl, hb8⟩))
  have hH0 : Bel w6 w8 := by assumption
  clear hR hM5 hX5
  go_wp2_with fail
  refine (toInt64S_any _ _ _ l br _ (hI.bel intE (bel_step S6 hH0)) HLn.out hq20).mono ?_
  rintro e wC ⟨BC, dC, rfl, IC, _, hbC⟩
  go_wp2_with fail
  refine (eqInt64S_same _ _ _ _ _ l dB dC _ (KI.out.1.bel intE (bel_step hH0 hbC)) IC HLn.out hq20).mono ?_
  rintro e wD ⟨rfl, hbD⟩
  have hH : Bel w6 wD := bel_step hH0 (bel_step hbC hbD)
  clear IC hbC hbD hH0
  have IBD := KI.out.1.bel intE hH
  have RBD : ∀ x ∈ dB, ∀ j, wD.frozen? ⟨x, j, none⟩ = false := fun x hx j => by rw [hH.out.frozen (p := ⟨x, j, none⟩) (KI.out.1.lt intE x hx)]; exact KI.out.2 x hx j
  have DB4 : ∀ x ∈ dB, x ∉ d4 := fun x hx hy => by have := (dBl.out x hx).1; have := (F4n.out x hy).2; omega
  obtain ⟨X6, Y6, V6, I63, I65, R6, F6, P6, G6⟩ := K.out
  have S8 := bel_step S6 hH
  have X8 := X6.bel hH
  have Y8 := Y6.bel hH
  have F8 := F6.bel hH
  have V8 := V6.bel hH
  have I83 := I63.bel intE hH
  have I85 := I65.bel intE hH
  have P8 := P6.bel hH
  have G8 := G6.bel hH
  have R8 : ∀ x ∈ e5, ∀ j, wD.frozen? ⟨x, j, none⟩ = false := fun x hx j => by rw [hH.out.frozen (p := ⟨x, j, none⟩) (I65.lt intE x hx)]; exact R6 x hx j
  have D3 : ∀ x ∈ e3, x ∉ d4 ++ dB := fun x hx h => (List.mem_append.1 h).elim (fun hy => by have := B3' x hx; have := (F4n.out x hy).1; omega) (fun hy => by have := B3' x hx; have := (dBl.out x hy).1; omega)
  have D5 : ∀ x ∈ e5, x ∉ d4 ++ dB := fun x hx h => (List.mem_append.1 h).elim (fun hy => by have := B5' x hx; have := (F4n.out x hy).2; omega) (fun hy => by exact dBe.out x hy hx)
  have D35 : ∀ x ∈ e3, x ∉ e5 := fun x hx hy => by have := B3' x hx; have := B5' x hy; omega
  have zz := X3lt.out
  have NX : w.heap.size ∉ d4 ++ dB := fun h => (List.mem_append.1 h).elim (fun hy => by have := (F4n.out _ hy).1; omega) (fun hy => by have := (dBl.out _ hy).1; omega)
  have NX5 : w.heap.size ∉ e5 := fun h => by have := B5' _ h; omega
  have NP : Pw ∉ d4 ++ dB := fun h => (List.mem_append.1 h).elim (fun hy => by have h1 := (F4n2.out _ hy); omega) (fun hy => by have := (dBl.out _ hy).1; omega)
  have NP5 : Pw ∉ e5 := fun h => by have := B5' _ h; omega
  have NG : Pg ∉ d4 ++ dB := fun h => (List.mem_append.1 h).elim (fun hy => by have := (F4n.out _ hy).2; omega) (fun hy => by have := dBp.out _ hy; omega)
  have NG5 : Pg ∉ e5 := fun h => by have := B5l _ h; omega
  have hd4 : ∀ x ∈ d4 ++ dB, w.heap.size ≤ x := fun x hx => (List.mem_append.1 hx).elim (fun hy => by have := (F4n.out x hy).1; omega) (fun hy => by have := (dBl.out x hy).1; omega)
  have he5 : ∀ x ∈ e5, w.heap.size ≤ x := fun x hx => by have := B5' x hx; omega
  have u0 : wD.cell? ⟨Bx, 0, none⟩ = some (.slice z0 s0 y0) := Y8.cell 0 (by simp)
  have u1 : wD.cell? ⟨Bx, 1, none⟩ = some (.slice z1 s1 y1) := Y8.cell 1 (by simp)
  have u2 : wD.cell? ⟨Bx, 2, none⟩ = some (.slice z2 s2 y2) := Y8.cell 2 (by simp)
  have ul := Y8.lt
  clear X6 Y6 V6 I63 I65 R6 F6 P6 G6 Y8
  go_wp2_with fail
  refine (markGraph_x _ m d4 _ V8 HL.out F8.free F8.nd).mono ?_
  rintro e w9a ⟨rfl, _, O9a⟩
  obtain ⟨KK, HKK⟩ : ∃ K, Hid (gMk m = K) := ⟨_, (rfl : gMk m = _)⟩
  rw [HKK.out]
  have hKb := gMk_bd HL.out
  rw [HKK.out] at hKb
  go_wp2_with fail
  refine (markInt64S_any _ _ _ l dB KK _ (IBD.alike intE (O9a.alike (IBD.lt intE) DB4)) (fun x hx j => by rw [OnlF.frozen O9a (IBD.lt intE x hx) (DB4 x hx)]; exact RBD x hx j) HLn.out hq20 (by omega)).mono ?_
  rintro e w9 ⟨rfl, _, _, O9b⟩
  obtain ⟨kE, HkE⟩ : ∃ k, Hid (KK + q = k) := ⟨_, (rfl : KK + q = _)⟩
  rw [HkE.out]
  have O9 : Onl (d4 ++ dB) wD w9 := (O9a.mono (fun x h => List.mem_append.2 (.inl h))).trans (O9b.mono (fun x h => List.mem_append.2 (.inr h)))
  clear O9a O9b IBD RBD DB4
  have hk0 : ¬ ((kE : Nat) : Int) < 0 := by omega
  have I93 := I83.alike intE (O9.alike (I83.lt intE) D3)
  have I95 := I85.alike intE (O9.alike (I85.lt intE) D5)
  have R9 : ∀ x ∈ e5, ∀ j, w9.frozen? ⟨x, j, none⟩ = false := fun x hx j => by rw [OnlF.frozen O9 (I85.lt intE x hx) (D5 x hx)]; exact R8 x hx j
  have S9 : Bel w w9 := Onl.to_bel S8 O9 hd4
  have X9 := O9.frx.blk X8 NX
  have P9 := O9.frx.blk P8 NP
  have G9 := O9.frx.blk G8 NG
  clear u0 u1 u2 ul I83 I85 R8 V8 F8 X8 O9 P8 G8
  have p0 : w9.cell? ⟨Pw, 0, none⟩ = some (.bool ok) := P9.cell 0 (by simp)
  have p1 : w9.cell? ⟨Pw, 1, none⟩ = some (.slice a3 n c3) := P9.cell 1 (by simp)
  have p2 : w9.cell? ⟨Pw, 2, none⟩ = some (.int .i64 tm) := P9.cell 2 (by simp)
  have p3 : w9.cell? ⟨Pw, 3, none⟩ = some (.int .i64 ln) := P9.cell 3 (by simp)
  have pl := P9.lt
  have gg0 : w9.cell? ⟨Pg, 0, none⟩ = some (.bool ok) := G9.cell 0 (by simp)
  have gg1 : w9.cell? ⟨Pg, 1, none⟩ = some (.slice a5 n c5) := G9.cell 1 (by simp)
  have gg2 : w9.cell? ⟨Pg, 2, none⟩ = some (.int .i64 tm) := G9.cell 2 (by simp)
  have gg3 : w9.cell? ⟨Pg, 3, none⟩ = some (.int .i64 ln) := G9.cell 3 (by simp)
  have ggl := G9.lt
  go_wp2_with fail
  refine (eqPath_same ok n tm ln _ _ _ _ L _ _ _ I95 I93 hLn (by omega)).mono ?_
  rintro e w10 ⟨rfl, hb10⟩
  have I103 := I93.bel intE hb10
  have I105 := I95.bel intE hb10
  have R10 : ∀ x ∈ e5, ∀ j, w10.frozen? ⟨x, j, none⟩ = false := fun x hx j => by rw [hb10.out.frozen (p := ⟨x, j, none⟩) (I95.lt intE x hx)]; exact R9 x hx j
  have S10 := bel_step S9 hb10
  have X10 := X9.bel hb10
  have P10 := P9.bel hb10
  have G10 := G9.bel hb10
  clear p0 p1 p2 p3 pl gg0 gg1 gg2 gg3 ggl X9 P9 G9 I93 I95 R9
  have gg0 : w10.cell? ⟨Pg, 0, none⟩ = some (.bool ok) := G10.cell 0 (by simp)
  have gg1 : w10.cell? ⟨Pg, 1, none⟩ = some (.slice a5 n c5) := G10.cell 1 (by simp)
  have gg2 : w10.cell? ⟨Pg, 2, none⟩ = some (.int .i64 tm) := G10.cell 2 (by simp)
  have gg3 : w10.cell? ⟨Pg, 3, none⟩ = some (.int .i64 ln) := G10.cell 3 (by simp)
  have ggl := G10.lt
  go_wp2_with fail
  refine (markPath_any ok n tm ln a5 c5 L e5 1 _ I105 R10 hLn (by omega) (by omega)).mono ?_
  rintro e w11 ⟨rfl, M11, O11⟩
  have I113 := I103.alike intE (O11.alike (I103.lt intE) D35)
  have S11 : Bel w w11 := Onl.to_bel S10 O11 he5
  have X11 := O11.frx.blk X10 NX5
  have P11 := O11.frx.blk P10 NP5
  have G11 := O11.frx.blk G10 NG5
  have hk1 : ¬ ((1 + n : Nat) : Int) < 0 := by omega
  clear gg0 gg1 gg2 gg3 ggl X10 P10 G10 I103 I105 R10 O11
  have gg0 : w11.cell? ⟨Pg, 0, none⟩ = some (.bool ok) := G11.cell 0 (by simp)
  have gg1 : w11.cell? ⟨Pg, 1, none⟩ = some (.slice a5 n c5) := G11.cell 1 (by simp)
  have gg2 : w11.cell? ⟨Pg, 2, none⟩ = some (.int .i64 tm) := G11.cell 2 (by simp)
  have gg3 : w11.cell? ⟨Pg, 3, none⟩ = some (.int .i64 ln) := G11.cell 3 (by simp)
  have ggl := G11.lt
  go_wp2_with fail
  refine (heldPath_any ok n tm ln a5 c5 L e5 1 _ M11 hLn (by omega) (by omega)).mono ?_
  rintro e w12 ⟨rfl, hb12⟩
  have S12 := bel_step S11 hb12
  have X12 := X11.bel hb12
  have P12 := P11.bel hb12
  have G12 := G11.bel hb12
  have I123 := I113.bel intE hb12
  have M12 := M11.bel intE hb12
  clear gg0 gg1 gg2 gg3 ggl X11 P11 G11 I113 M11
  have x0 : w12.cell? ⟨w.heap.size, 0, none⟩ = some (.slice a0 n0 c0) := X12.cell 0 (by simp)
  have x1 : w12.cell? ⟨w.heap.size, 1, none⟩ = some (.slice a1 n1 c1) := X12.cell 1 (by simp)
  have x2 : w12.cell? ⟨w.heap.size, 2, none⟩ = some (.slice a2 n2 c2) := X12.cell 2 (by simp)
  have xl := X12.lt
  go_wp2_with fail
  refine (toGraph_v _ m bs _ (hV'.bel S12) HL.out).mono ?_
  rintro e w13 ⟨v13, d13, rfl, V13, _, hb13⟩
  clear x0 x1 x2 xl
  go_wp2_with fail
  refine (toInt64S_any _ _ _ l br _ (hI.bel intE (bel_step S12 hb13)) HLn.out hq20).mono ?_
  rintro e w13b ⟨B13, d13b, rfl, I13, _, hb13b⟩
  have hb13 := bel_step hb13 hb13b
  have V13 := V13.bel hb13b
  go_wp2_with fail
  refine (dailyI_any _ m d13 _ _ _ l d13b si ti st _ (hT.bel (bel_step S12 hb13)) V13 HL.out I13 HLn.out hq20).mono ?_
  rintro e w14 ⟨O14, hb14⟩
  rw [HQ.out] at O14
  obtain ⟨a14, c14, e14, rfl, I14, _, _⟩ := HInt.out O14
  have h14 := bel_step hb13 hb14
  have I143 := I123.bel intE h14
  have M14 := M12.bel intE h14
  have P14 := P12.bel h14
  have G14 := G12.bel h14
  have S14 := bel_step S12 h14
  obtain ⟨V15, HV15⟩ : ∃ X, Hid (X = w14.alloc (.cells #[.bool ok, .slice a14 n c14, .int .i64 tm, .int .i64 ln] 30)) := ⟨_, (rfl : w14.alloc (.cells #[.bool ok, .slice a14 n c14, .int .i64 tm, .int .i64 ln] 30) = _)⟩
  have hb15 : Bel w14 V15 := by rw [HV15.out]; exact bel_alloc (Bel.refl _) _
  have H15 : Blk V15 w14.heap.size [.bool ok, .slice a14 n c14, .int .i64 tm, .int .i64 ln] := by rw [HV15.out]; exact Blk.new w14 [.bool ok, .slice a14 n c14, .int .i64 tm, .int .i64 ln] _
  have P15 := P14.bel hb15
  have G15 := G14.bel hb15
  have S15 := bel_step S14 hb15
  have I15 := I14.bel intE hb15
  have I153 := I143.bel intE hb15
  have M15 := M14.bel intE hb15
  clear O14 V13 hb13 hb14 I123 M12 P12 G12 X12 I143 I14 M14 P14 G14
  obtain ⟨Ph, HPh⟩ : ∃ k, Hid (w14.heap.size = k) := ⟨_, (rfl : w14.heap.size = _)⟩
  rw [HPh.out] at H15
  go_upto_region 31 with fail
  rw [← HV15.out, HPh.out]
  have hh0 : V15.cell? ⟨Ph, 0, none⟩ = some (.bool ok) := H15.cell 0 (by simp)
  have hh1 : V15.cell? ⟨Ph, 1, none⟩ = some (.slice a14 n c14) := H15.cell 1 (by simp)
  have hh2 : V15.cell? ⟨Ph, 2, none⟩ = some (.int .i64 tm) := H15.cell 2 (by simp)
  have hh3 : V15.cell? ⟨Ph, 3, none⟩ = some (.int .i64 ln) := H15.cell 3 (by simp)
  have hhl := H15.lt
  have p0 : V15.cell? ⟨Pw, 0, none⟩ = some (.bool ok) := P15.cell 0 (by simp)
  have p1 : V15.cell? ⟨Pw, 1, none⟩ = some (.slice a3 n c3) := P15.cell 1 (by simp)
  have p2 : V15.cell? ⟨Pw, 2, none⟩ = some (.int .i64 tm) := P15.cell 2 (by simp)
  have p3 : V15.cell? ⟨Pw, 3, none⟩ = some (.int .i64 ln) := P15.cell 3 (by simp)
  have pl := P15.lt
  go_wp2_with fail
  refine (eqPath_same ok n tm ln _ _ _ _ L _ _ _ I15 I153 hLn (by omega)).mono ?_
  rintro e w16 ⟨rfl, hb16⟩
  have S16 := bel_step S15 hb16
  have G16 := G15.bel hb16
  have M16 := M15.bel intE hb16
  clear hh0 hh1 hh2 hh3 hhl p0 p1 p2 p3 pl H15 P15 G15 I15 I153 M15
  have gg0 : w16.cell? ⟨Pg, 0, none⟩ = some (.bool ok) := G16.cell 0 (by simp)
  have gg1 : w16.cell? ⟨Pg, 1, none⟩ = some (.slice a5 n c5) := G16.cell 1 (by simp)
  have gg2 : w16.cell? ⟨Pg, 2, none⟩ = some (.int .i64 tm) := G16.cell 2 (by simp)
  have gg3 : w16.cell? ⟨Pg, 3, none⟩ = some (.int .i64 ln) := G16.cell 3 (by simp)
  have ggl := G16.lt
  go_wp2_with fail
  refine (heldPath_any ok n tm ln a5 c5 L e5 1 _ M16 hLn (by omega) (by omega)).mono ?_
  rintro e w17 ⟨rfl, hb17⟩
  have S17 := bel_step S16 hb17
  clear gg0 gg1 gg2 gg3 ggl M16 G16
  go_wp2
  go_ret
  exact ⟨rfl, S17⟩
end Go.Proofs.YtakedciemnkfhaaGreatDoor
