/-
  Stops' names, calls, walks, trips and timetables, their marks held; a timetable marked: contracts.
-/
import Derived.Test.YtkmccjjghpnejaaMarkL
import Derived.Test.YtkmccjjghpnejaaLinL
import Derived.Deep.RegionHeld3
namespace Go.Proofs.Ytkmccjjghpnejaa
open Go.RowKit Go.Maps

set_option maxRecDepth 100000 in
set_option maxHeartbeats 2000000 in
theorem heldStringS_any (a : Option Addr) (n c : Nat) (l : List ByteArray) (bs : List Nat) (k : Nat) (w : World) (hT : StrL w a (mkStrs k l) bs) (hn : l.length = n) (hm : n ≤ 1048576) (h0k : 0 < k) (hk : k ≤ 1125899906842624) :
  Calls Try.prog 74 #[.slice a n c, .int .i64 k] w fun e w' => e = .returned (.int .i64 ((k + n : Nat) : Int)) ∧ Bel w w' := by
 have Hn : Hid (l.length = n) := hn
 clear hn
 go_enter Try.func74, Try.ntmps74
 go_wp2
 go_loopw [1, 5] (fun t i wr => ∃ j : Nat, j ≤ n ∧ i = .int .i64 j ∧ t = .int .i64 ((k + j : Nat) : Int) ∧ Bel w wr) (fun _ i _ => n - (intOf i).toNat)
 case atStart => exact ⟨0, Nat.zero_le _, rfl, by simp, Bel.refl _⟩
 case round =>
  obtain ⟨j, hj, rfl, rfl, hbel⟩ := hrel
  by_cases hlt : j < n
  ·have hjl : j < (mkStrs k l).length := by rw [mkStrs_len, Hn.out]; exact hlt
   obtain ⟨b, off, f, rfl, hb, hx⟩ := (hT.bel strE hbel).out hjl
   have hj0 := hx j hjl
   rw [show (mkStrs k l)[j] = mT (k + j) by simp [mkStrs]] at hj0
   obtain ⟨_, _, e0⟩ := hj0
   rw [Nat.mul_one] at e0
   obtain ⟨kk, hkk⟩ : ∃ kk, k + j = kk := ⟨_, rfl⟩
   have HK : Hid (k + (j + 1) = kk + 1) := (by omega : k + (j + 1) = kk + 1)
   rw [hkk] at e0 ⊢
   have hk1 : 0 < kk := by omega
   have hk2 : kk ≤ 1125902004000000 := by omega
   clear hkk
   obtain ⟨s, Hs⟩ : ∃ s, Hid (mT kk = s) := ⟨_, (rfl : mT kk = _)⟩
   have c0 : wr.cell? ⟨b, off + j, none⟩ = some (.string s) := by rw [← Hs.out]; exact e0
   have hlt' : (j : Int) < (n : Int) := by omega
   have hR : ∀ w', Bel wr w' → w'.cell? ⟨b, off + j, none⟩ = some (.string s) := fun w' h => bel_cellM h hb c0
   have g0 : Bel wr wr := Bel.refl _
   clear hx hT c0 e0 hb
   go_wp2
   go_region_held3 (fun w' => Bel wr w') (with_reducible (repeat (first | assumption | exact g0 | refine Bel.drew ?_ | refine bel_then (by assumption) ?_)))
    (first
     | (go_at_call 100; refine (markText_any kk _ hk1 (by omega)).mono ?_; rintro e w1 ⟨rfl, hb1⟩; rw [Hs.out]))
   have h1 : Bel wr w1 := by assumption
   clear hb1
   go_wp2
   go_roundw
   case rel => exact ⟨j + 1, by omega, by go_num, by rw [HK.out]; go_num, bel_step hbel h1⟩
   case measure => simp [intOf]; omega
  ·have e : n = j := by omega
   subst e
   clear hT
   go_wp2
   go_ret
   exact ⟨rfl, hbel⟩

set_option maxRecDepth 100000 in
set_option maxHeartbeats 2000000 in
theorem heldCallS_any (a : Option Addr) (n c : Nat) (l : List CalD) (bs : List Nat) (k : Nat) (w : World) (hT : CalL w a (mkCals k l) bs) (hn : l.length = n) (hm : n ≤ 1048576) (hk : k ≤ 1125899906842624) :
  Calls Try.prog 102 #[.slice a n c, .int .i64 k] w fun e w' => e = .returned (.int .i64 ((k + 3 * n : Nat) : Int)) ∧ w' = w := by
 have Hn : Hid (l.length = n) := hn
 clear hn
 go_enter Try.func102, Try.ntmps102
 go_wp2
 go_loopw [1, 5] (fun t i wr => ∃ j : Nat, j ≤ n ∧ i = .int .i64 j ∧ t = .int .i64 ((k + 3 * j : Nat) : Int) ∧ wr = w) (fun _ i _ => n - (intOf i).toNat)
 case atStart => exact ⟨0, Nat.zero_le _, rfl, by simp, rfl⟩
 case round =>
  obtain ⟨j, hj, rfl, rfl, rfl⟩ := hrel
  by_cases hlt : j < n
  ·have hjl : j < (mkCals k l).length := by rw [mkCals_len, Hn.out]; exact hlt
   obtain ⟨b, off, f, rfl, hb, hx⟩ := hT.out hjl
   have hj0 := hx j hjl
   rw [show (mkCals k l)[j] = mkCal (k + 3 * j) by simp [mkCals]] at hj0
   obtain ⟨_, _, _, _, e0, e1, e2⟩ := hj0
   obtain ⟨kk, hkk⟩ : ∃ kk, k + 3 * j = kk := ⟨_, rfl⟩
   have HK : Hid (k + 3 * (j + 1) = kk + 3) := (by omega : k + 3 * (j + 1) = kk + 3)
   rw [hkk] at e0 e1 e2 ⊢
   have hk2 : kk ≤ 1125902004000000 + 2097152 := by omega
   clear hkk
   have c0 : wr.cell? ⟨b, off + j * 3, none⟩ = some (.int .i64 (kk : Int)) := e0
   have c1 : wr.cell? ⟨b, off + j * 3 + 1, none⟩ = some (.int .i64 ((kk : Int) + 1)) := e1.trans (congrArg (fun z => some (Value.int .i64 z)) (by show ((kk + 1 : Nat) : Int) = _; omega))
   have c2 : wr.cell? ⟨b, off + j * 3 + 2, none⟩ = some (.int .i64 ((kk : Int) + 1 + 1)) := e2.trans (congrArg (fun z => some (Value.int .i64 z)) (by show ((kk + 2 : Nat) : Int) = _; omega))
   have hlt' : (j : Int) < (n : Int) := by omega
   clear hx hT e0 e1 e2
   go_wp2
   go_roundw
   case rel => exact ⟨j + 1, by omega, by go_num, by rw [HK.out]; go_num, trivial⟩
   case measure => simp [intOf]; omega
  ·have e : n = j := by omega
   subst e
   clear hT
   go_wp2
   go_ret
   exact ⟨rfl, rfl⟩

set_option maxRecDepth 100000 in
set_option maxHeartbeats 2000000 in
theorem heldWalkS_any (a : Option Addr) (n c : Nat) (l : List WlkD) (bs : List Nat) (k : Nat) (w : World) (hT : WlkL w a (mkWlks k l) bs) (hn : l.length = n) (hm : n ≤ 1048576) (hk : k ≤ 1125899906842624) :
  Calls Try.prog 76 #[.slice a n c, .int .i64 k] w fun e w' => e = .returned (.int .i64 ((k + 3 * n : Nat) : Int)) ∧ w' = w := by
 have Hn : Hid (l.length = n) := hn
 clear hn
 go_enter Try.func76, Try.ntmps76
 go_wp2
 go_loopw [1, 5] (fun t i wr => ∃ j : Nat, j ≤ n ∧ i = .int .i64 j ∧ t = .int .i64 ((k + 3 * j : Nat) : Int) ∧ wr = w) (fun _ i _ => n - (intOf i).toNat)
 case atStart => exact ⟨0, Nat.zero_le _, rfl, by simp, rfl⟩
 case round =>
  obtain ⟨j, hj, rfl, rfl, rfl⟩ := hrel
  by_cases hlt : j < n
  ·have hjl : j < (mkWlks k l).length := by rw [mkWlks_len, Hn.out]; exact hlt
   obtain ⟨b, off, f, rfl, hb, hx⟩ := hT.out hjl
   have hj0 := hx j hjl
   rw [show (mkWlks k l)[j] = mkWlk (k + 3 * j) by simp [mkWlks]] at hj0
   obtain ⟨_, _, _, _, e0, e1, e2⟩ := hj0
   obtain ⟨kk, hkk⟩ : ∃ kk, k + 3 * j = kk := ⟨_, rfl⟩
   have HK : Hid (k + 3 * (j + 1) = kk + 3) := (by omega : k + 3 * (j + 1) = kk + 3)
   rw [hkk] at e0 e1 e2 ⊢
   have hk2 : kk ≤ 1125902004000000 + 2097152 := by omega
   clear hkk
   have c0 : wr.cell? ⟨b, off + j * 3, none⟩ = some (.int .i64 (kk : Int)) := e0
   have c1 : wr.cell? ⟨b, off + j * 3 + 1, none⟩ = some (.int .i64 ((kk : Int) + 1)) := e1.trans (congrArg (fun z => some (Value.int .i64 z)) (by show ((kk + 1 : Nat) : Int) = _; omega))
   have c2 : wr.cell? ⟨b, off + j * 3 + 2, none⟩ = some (.int .i64 ((kk : Int) + 1 + 1)) := e2.trans (congrArg (fun z => some (Value.int .i64 z)) (by show ((kk + 2 : Nat) : Int) = _; omega))
   have hlt' : (j : Int) < (n : Int) := by omega
   clear hx hT e0 e1 e2
   go_wp2
   go_roundw
   case rel => exact ⟨j + 1, by omega, by go_num, by rw [HK.out]; go_num, trivial⟩
   case measure => simp [intOf]; omega
  ·have e : n = j := by omega
   subst e
   clear hT
   go_wp2
   go_ret
   exact ⟨rfl, rfl⟩

set_option maxRecDepth 100000 in
set_option maxHeartbeats 2000000 in
theorem heldTripS_any (a : Option Addr) (n c : Nat) (l : List TrpD) (bs : List Nat) (k : Nat) (w : World) (hT : TrpL w a (mkTrps k l) bs) (hn : l.length = n) (hm : n ≤ 1048576) (hs : ∀ i (h : i < l.length), l[i].calls.length ≤ 1048576) (h0k : 0 < k) (hk : k ≤ 70368744177664) :
  Calls Try.prog 75 #[.slice a n c, .int .i64 k] w fun e w' => e = .returned (.int .i64 (stTrp k l n : Nat)) ∧ Bel w w' := by
 have Hn : Hid (l.length = n) := hn
 have HS : Hid (∀ i (h : i < l.length), l[i].calls.length ≤ 1048576) := hs
 have HB : Hid (∀ j, j ≤ l.length → k ≤ stTrp k l j ∧ stTrp k l j ≤ k + j * 3145730) := stTrp_bd hs
 clear hn hs
 go_enter Try.func75, Try.ntmps75
 go_wp2
 go_loopw [1, 5] (fun t i wr => ∃ j : Nat, j ≤ n ∧ i = .int .i64 j ∧ t = .int .i64 (stTrp k l j : Nat) ∧ Bel w wr) (fun _ i _ => n - (intOf i).toNat)
 case atStart => exact ⟨0, Nat.zero_le _, rfl, rfl, Bel.refl _⟩
 case round =>
  obtain ⟨j, hj, rfl, rfl, hbel⟩ := hrel
  by_cases hlt : j < n
  ·have hjl : j < (mkTrps k l).length := by rw [mkTrps_len, Hn.out]; exact hlt
   have hjd : j < l.length := by rw [Hn.out]; exact hlt
   obtain ⟨b, off, f, rfl, hb, hx⟩ := (hT.bel trpE hbel).out hjl
   have hj0 := hx j hjl
   rw [show (mkTrps k l)[j] = mkTrp (stTrp k l j) l[j] by simp [mkTrps, hjd]] at hj0
   have htl := HS.out j hjd
   have hkk := HB.out j (by rw [Hn.out]; exact hj)
   have HNX : Hid (stTrp k l (j + 1) = stTrp k l j + 2 + 3 * l[j].calls.length) := by
    show stTrp k l j + (2 + 3 * (l.getD j ⟨⟨#[]⟩, 0, []⟩).calls.length) = _
    rw [getD_at _ hjd]; omega
   obtain ⟨d, Hd⟩ : ∃ d, Hid (d = l[j]) := ⟨_, (rfl : l[j] = _)⟩
   obtain ⟨kk, HK⟩ : ∃ kk, Hid (stTrp k l j = kk) := ⟨_, (rfl : stTrp k l j = _)⟩
   rw [HK.out, ← Hd.out] at hj0 HNX
   rw [HK.out] at hkk ⊢
   rw [← Hd.out] at htl
   obtain ⟨_, _, e0, e1, ta, tc, _, e2, u2⟩ := hj0
   have hlt' : (j : Int) < (n : Int) := by omega
   have hk1 : 0 < kk := by omega
   have hk2 : kk ≤ 80000000000000 := by omega
   obtain ⟨s, Hs⟩ : ∃ s, Hid (mT kk = s) := ⟨_, (rfl : mT kk = _)⟩
   have c0 : wr.cell? ⟨b, off + j * 3, none⟩ = some (.string s) := by rw [← Hs.out]; exact e0
   have c1 : wr.cell? ⟨b, off + j * 3 + 1, none⟩ = some (.int .i64 ((kk : Int) + 1)) := e1.trans (congrArg (fun z => some (Value.int .i64 z)) (by show ((kk + 1 : Nat) : Int) = _; omega))
   have c2 : wr.cell? ⟨b, off + j * 3 + 2, none⟩ = some (.slice ta d.calls.length tc) := e2.trans (congrArg (fun z => some (Value.slice ta z tc)) (by show (mkCals (kk + 2) d.calls).length = _; rw [mkCals_len]))
   have HKN : Hid ((kk : Int) + 1 + 1 = ((kk + 2 : Nat) : Int)) := (by omega : (kk : Int) + 1 + 1 = ((kk + 2 : Nat) : Int))
   have t2 : CalL wr ta (mkCals (kk + 2) d.calls) (f j) := u2
   have hR : ∀ w', Bel wr w' → w'.cell? ⟨b, off + j * 3, none⟩ = some (.string s) ∧ w'.cell? ⟨b, off + j * 3 + 1, none⟩ = some (.int .i64 ((kk : Int) + 1)) ∧ w'.cell? ⟨b, off + j * 3 + 2, none⟩ = some (.slice ta d.calls.length tc) := fun w' h => ⟨bel_cellM h hb c0, bel_cellM h hb c1, bel_cellM h hb c2⟩
   have g0 : Bel wr wr := Bel.refl _
   clear hx hT c0 c1 c2 e0 e1 e2 u2
   go_wp2
   go_region_held3 (fun w' => Bel wr w') (with_reducible (repeat (first | assumption | exact g0 | refine Bel.drew ?_ | refine bel_then (by assumption) ?_)))
    (first
     | (go_at_call 100; refine (markText_any kk _ hk1 (by omega)).mono ?_; rintro e w1 ⟨rfl, hb1⟩; rw [Hs.out]))
   have h1 : Bel wr w1 := by assumption
   obtain ⟨r0, r1, r2⟩ := hR _ h1
   have t21 := t2.bel calE h1
   have hbl := bel_lt h1 hb
   clear hb1 hR g0 t2
   go_wp2_with fail
   rw [HKN.out]
   refine (heldCallS_any ta _ tc d.calls (f j) (kk + 2) _ t21 rfl htl (by omega)).mono ?_
   rintro e w4 ⟨rfl, rfl⟩
   have hnn : ¬ ((kk + 2 + 3 * d.calls.length : Nat) : Int) < 0 := by omega
   have hB4 := bel_step hbel h1
   clear r0 r1 r2 t21
   go_wp2
   go_roundw
   case rel => exact ⟨j + 1, by omega, by go_num, by rw [HNX.out]; go_num, hB4⟩
   case measure => simp [intOf]; omega
  ·have e : n = j := by omega
   subst e
   clear hT
   go_wp2
   go_ret
   exact ⟨rfl, hbel⟩

/-- A timetable as its marks leave it. -/
def mkLinT (k : Nat) (g : LinesD) : Nat := k + g.stops.length
def mkLinW (k : Nat) (g : LinesD) : Nat := stTrp (mkLinT k g) g.trips g.trips.length
def mkLinE (k : Nat) (g : LinesD) : Nat := mkLinW k g + 3 * g.walks.length
def mkLin (k : Nat) (g : LinesD) : LinesD := ⟨mkStrs k g.stops, mkTrps (mkLinT k g) g.trips, mkWlks (mkLinW k g) g.walks⟩

set_option maxRecDepth 100000 in
set_option maxHeartbeats 2000000 in
theorem heldLines_any (v : Value) (g : LinesD) (bs : List Nat) (k : Nat) (w : World) (hV : LinV w v (mkLin k g) bs) (hQ : LinQ g) (h0k : 0 < k) (hk : k ≤ 35184372088832) :
  Calls Try.prog 22 #[v, .int .i64 k] w fun e w' => e = .returned (.int .i64 (mkLinE k g : Nat)) ∧ Bel w w' := by
 obtain ⟨a0, c0, a1, c1, a2, c2, b0, b1, b2, hbs, rfl, t0, t1, t2⟩ := hV
 obtain ⟨m0, m1, m2, u1⟩ := hQ
 obtain ⟨n0, hn0⟩ : ∃ n, g.stops.length = n := ⟨_, rfl⟩
 obtain ⟨n1, hn1⟩ : ∃ n, g.trips.length = n := ⟨_, rfl⟩
 obtain ⟨n2, hn2⟩ : ∃ n, g.walks.length = n := ⟨_, rfl⟩
 have H0 : Hid (g.stops.length = n0) := hn0
 have H1 : Hid (g.trips.length = n1) := hn1
 have H2 : Hid (g.walks.length = n2) := hn2
 rw [show (mkLin k g).stops.length = n0 from (mkStrs_len _ _).trans hn0, show (mkLin k g).trips.length = n1 from (mkTrps_len _ _).trans hn1, show (mkLin k g).walks.length = n2 from (mkWlks_len _ _).trans hn2]
 rw [hn0] at m0
 rw [hn1] at m1
 rw [hn2] at m2
 obtain ⟨kT, HT⟩ : ∃ x, Hid (k + n0 = x) := ⟨_, (rfl : k + n0 = _)⟩
 have hkT : kT ≤ 35184373137408 ∧ 0 < kT := by rw [← HT.out]; omega
 have hk1 := (stTrp_bd (k := kT) u1 g.trips.length (Nat.le_refl _))
 obtain ⟨kW, HW⟩ : ∃ x, Hid (stTrp kT g.trips n1 = x) := ⟨_, (rfl : stTrp kT g.trips n1 = _)⟩
 rw [hn1, HW.out] at hk1
 obtain ⟨kE, HE⟩ : ∃ x, Hid (kW + 3 * n2 = x) := ⟨_, (rfl : kW + 3 * n2 = _)⟩
 have HEE : Hid (mkLinE k g = kE ∧ mkLinW k g = kW ∧ mkLinT k g = kT) := by
  have e1 : mkLinT k g = kT := by unfold mkLinT; rw [hn0]; exact HT.out
  have e2 : mkLinW k g = kW := by unfold mkLinW; rw [e1, hn1]; exact HW.out
  exact (⟨by unfold mkLinE; rw [e2, hn2]; exact HE.out, e2, e1⟩ : mkLinE k g = kE ∧ mkLinW k g = kW ∧ mkLinT k g = kT)
 rw [HEE.out.1]
 have hkW : kW ≤ 52776558133248 ∧ 0 < kW := by omega
 have HU1 : Hid (∀ i (h : i < g.trips.length), g.trips[i].calls.length ≤ 1048576) := u1
 have T0 : StrL w a0 (mkStrs k g.stops) b0 := t0
 have T1 : TrpL w a1 (mkTrps kT g.trips) b1 := by rw [← HEE.out.2.2]; exact t1
 have T2 : WlkL w a2 (mkWlks kW g.walks) b2 := by rw [← HEE.out.2.1]; exact t2
 obtain ⟨wb, HB⟩ : ∃ x, Hid (x = w.alloc (.cells #[.slice a0 n0 c0, .slice a1 n1 c1, .slice a2 n2 c2] 49)) := ⟨_, (rfl : w.alloc (.cells #[.slice a0 n0 c0, .slice a1 n1 c1, .slice a2 n2 c2] 49) = _)⟩
 have S0 : Bel w wb := by rw [HB.out]; exact bel_alloc (Bel.refl _) _
 have X0 : Blk wb w.heap.size [.slice a0 n0 c0, .slice a1 n1 c1, .slice a2 n2 c2] := by rw [HB.out]; exact Blk.new w [.slice a0 n0 c0, .slice a1 n1 c1, .slice a2 n2 c2] 49
 have nT : ¬ ((kT : Nat) : Int) < 0 := by omega
 have nW : ¬ ((kW : Nat) : Int) < 0 := by omega
 have nE : ¬ ((kE : Nat) : Int) < 0 := by omega
 clear t0 t1 t2 hn0 hn1 hn2 u1 hbs
 go_enter Try.func22, Try.ntmps22
 go_wp2_with fail
 rw [← HB.out]
 refine (heldStringS_any a0 _ c0 g.stops b0 k _ (T0.bel strE S0) H0.out m0 h0k (by omega)).mono ?_
 rintro e w1 ⟨rfl, hb1⟩
 rw [HT.out]
 have X1 := X0.bel hb1
 have x1 : w1.cell? ⟨w.heap.size, 1, none⟩ = some (.slice a1 n1 c1) := X1.cell 1 (by simp)
 have S1 := bel_step S0 hb1
 go_wp2_with fail
 refine (heldTripS_any a1 _ c1 g.trips b1 kT _ (T1.bel trpE S1) H1.out m1 HU1.out hkT.2 (by omega)).mono ?_
 rintro e w2 ⟨rfl, hb2⟩
 rw [HW.out]
 have x2 : w2.cell? ⟨w.heap.size, 2, none⟩ = some (.slice a2 n2 c2) := (X1.bel hb2).cell 2 (by simp)
 have S2 := bel_step S1 hb2
 clear x1
 go_wp2_with fail
 refine (heldWalkS_any a2 _ c2 g.walks b2 kW _ (T2.bel wlkE S2) H2.out m2 (by omega)).mono ?_
 rintro e w3 ⟨rfl, rfl⟩
 rw [HE.out]
 clear x2
 go_wp2
 go_ret
 exact ⟨rfl, S2⟩

set_option maxRecDepth 100000 in
set_option maxHeartbeats 2000000 in
theorem markLines_any (v : Value) (g : LinesD) (bs : List Nat) (k : Nat) (w : World) (hV : LinV w v g bs) (hQ : LinQ g) (hf : ∀ x ∈ bs, ∀ j, w.frozen? ⟨x, j, none⟩ = false) (hd : bs.Nodup) (h0k : 0 < k) (hk : k ≤ 35184372088832) :
  Calls Try.prog 21 #[v, .int .i64 k] w fun e w' => e = .returned (.int .i64 (mkLinE k g : Nat)) ∧ LinV w' v (mkLin k g) bs ∧ (∀ x ∈ bs, ∀ j, w'.frozen? ⟨x, j, none⟩ = false) ∧ Onl bs w w' := by
 obtain ⟨a0, c0, a1, c1, a2, c2, b0, b1, b2, hbs, rfl, t0, t1, t2⟩ := hV
 obtain ⟨m0, m1, m2, u1⟩ := hQ
 obtain ⟨n0, hn0⟩ : ∃ n, g.stops.length = n := ⟨_, rfl⟩
 obtain ⟨n1, hn1⟩ : ∃ n, g.trips.length = n := ⟨_, rfl⟩
 obtain ⟨n2, hn2⟩ : ∃ n, g.walks.length = n := ⟨_, rfl⟩
 have H0 : Hid (g.stops.length = n0) := hn0
 have H1 : Hid (g.trips.length = n1) := hn1
 have H2 : Hid (g.walks.length = n2) := hn2
 rw [hn0, hn1, hn2]
 rw [hn0] at m0
 rw [hn1] at m1
 rw [hn2] at m2
 obtain ⟨kT, HT⟩ : ∃ x, Hid (k + n0 = x) := ⟨_, (rfl : k + n0 = _)⟩
 have hkT : kT ≤ 35184373137408 ∧ 0 < kT := by rw [← HT.out]; omega
 have hk1 := (stTrp_bd (k := kT) u1 g.trips.length (Nat.le_refl _))
 obtain ⟨kW, HW⟩ : ∃ x, Hid (stTrp kT g.trips n1 = x) := ⟨_, (rfl : stTrp kT g.trips n1 = _)⟩
 rw [hn1, HW.out] at hk1
 obtain ⟨kE, HE⟩ : ∃ x, Hid (kW + 3 * n2 = x) := ⟨_, (rfl : kW + 3 * n2 = _)⟩
 have HEE : Hid (mkLinE k g = kE ∧ mkLinW k g = kW ∧ mkLinT k g = kT) := by
  have e1 : mkLinT k g = kT := by unfold mkLinT; rw [hn0]; exact HT.out
  have e2 : mkLinW k g = kW := by unfold mkLinW; rw [e1, hn1]; exact HW.out
  exact (⟨by unfold mkLinE; rw [e2, hn2]; exact HE.out, e2, e1⟩ : mkLinE k g = kE ∧ mkLinW k g = kW ∧ mkLinT k g = kT)
 rw [HEE.out.1]
 have hkW : kW ≤ 52776558133248 ∧ 0 < kW := by omega
 have HU1 : Hid (∀ i (h : i < g.trips.length), g.trips[i].calls.length ≤ 1048576) := u1
 subst hbs
 obtain ⟨d0, d12, x0⟩ := List.nodup_append.1 hd
 obtain ⟨d1, d2, x1⟩ := List.nodup_append.1 d12
 have D01 : ∀ x ∈ b0, x ∉ b1 := fun x hx hy => x0 x hx x (List.mem_append.2 (.inl hy)) rfl
 have D02 : ∀ x ∈ b0, x ∉ b2 := fun x hx hy => x0 x hx x (List.mem_append.2 (.inr hy)) rfl
 have D12 : ∀ x ∈ b1, x ∉ b2 := fun x hx hy => x1 x hx x hy rfl
 have L0 := t0.lt strE
 have L1 := t1.lt trpE
 have L2 := t2.lt wlkE
 obtain ⟨wb, HB⟩ : ∃ x, Hid (x = w.alloc (.cells #[.slice a0 n0 c0, .slice a1 n1 c1, .slice a2 n2 c2] 49)) := ⟨_, (rfl : w.alloc (.cells #[.slice a0 n0 c0, .slice a1 n1 c1, .slice a2 n2 c2] 49) = _)⟩
 have S0 : Bel w wb := by rw [HB.out]; exact bel_alloc (Bel.refl _) _
 have X0 : Blk wb w.heap.size [.slice a0 n0 c0, .slice a1 n1 c1, .slice a2 n2 c2] := by rw [HB.out]; exact Blk.new w [.slice a0 n0 c0, .slice a1 n1 c1, .slice a2 n2 c2] 49
 have zb : w.heap.size < wb.heap.size := by rw [HB.out]; simp
 have N0 : w.heap.size ∉ b0 := fun h => absurd (L0 _ h) (Nat.lt_irrefl _)
 have N1 : w.heap.size ∉ b1 := fun h => absurd (L1 _ h) (Nat.lt_irrefl _)
 have hlw : ∀ x ∈ b0 ++ (b1 ++ b2), x < w.heap.size := fun x hx => by
  rcases List.mem_append.1 hx with h | h
  ·exact L0 x h
  ·rcases List.mem_append.1 h with h | h
   ·exact L1 x h
   ·exact L2 x h
 have F : ∀ x ∈ b0 ++ (b1 ++ b2), ∀ j, wb.frozen? ⟨x, j, none⟩ = false := fun x hx j => by
  rw [S0.out.frozen (p := ⟨x, j, none⟩) (hlw x hx)]
  exact hf x hx j
 have F0 : ∀ x ∈ b0, ∀ j, wb.frozen? ⟨x, j, none⟩ = false := fun x hx => F x (List.mem_append.2 (.inl hx))
 have F1 : ∀ x ∈ b1, ∀ j, wb.frozen? ⟨x, j, none⟩ = false := fun x hx => F x (List.mem_append.2 (.inr (List.mem_append.2 (.inl hx))))
 have F2 : ∀ x ∈ b2, ∀ j, wb.frozen? ⟨x, j, none⟩ = false := fun x hx => F x (List.mem_append.2 (.inr (List.mem_append.2 (.inr hx))))
 have T0 := t0.bel strE S0
 have T1 := t1.bel trpE S0
 have T2 := t2.bel wlkE S0
 have q0 : ∀ x ∈ b0, x < wb.heap.size := T0.lt strE
 have q1 : ∀ x ∈ b1, x < wb.heap.size := T1.lt trpE
 have q2 : ∀ x ∈ b2, x < wb.heap.size := T2.lt wlkE
 have hld : (w.alloc (.cells #[.slice a0 n0 c0, .slice a1 n1 c1, .slice a2 n2 c2] 49)).cell? ⟨w.heap.size, 0, none⟩ = some (.slice a0 n0 c0) := by rw [← HB.out]; exact X0.cell 0 (by simp)
 clear hn0 hn1 hn2 u1 hf hd d12 x0 x1 t0 t1 t2
 go_enter Try.func21, Try.ntmps21
 go_wp2_with fail
 rw [← HB.out]
 refine (markStringS_any a0 _ c0 g.stops b0 k _ T0 F0 H0.out m0 h0k (by omega)).mono ?_
 rintro e w1 ⟨rfl, V0, G0, O1⟩
 rw [Nat.one_mul, HT.out]
 have y11 : w1.cell? ⟨w.heap.size, 1, none⟩ = some (.slice a1 n1 c1) := by rw [O1.cell zb N0]; exact X0.cell 1 (by simp)
 have y12 : w1.cell? ⟨w.heap.size, 2, none⟩ = some (.slice a2 n2 c2) := by rw [O1.cell zb N0]; exact X0.cell 2 (by simp)
 have z1 : w.heap.size < w1.heap.size := Nat.lt_of_lt_of_le zb O1.size
 have D10 : ∀ x ∈ b1, x ∉ b0 := fun x hx hy => D01 x hy hx
 have D20 : ∀ x ∈ b2, x ∉ b0 := fun x hx hy => D02 x hy hx
 have D21 : ∀ x ∈ b2, x ∉ b1 := fun x hx hy => D12 x hy hx
 have T11 := T1.alike trpE (O1.alike q1 D10)
 have T21 := T2.alike wlkE (O1.alike q2 D20)
 have F11 : ∀ x ∈ b1, ∀ j, w1.frozen? ⟨x, j, none⟩ = false := fun x hx j => by rw [O1.frozen (q1 x hx) (D10 x hx)]; exact F1 x hx j
 have F21 : ∀ x ∈ b2, ∀ j, w1.frozen? ⟨x, j, none⟩ = false := fun x hx j => by rw [O1.frozen (q2 x hx) (D20 x hx)]; exact F2 x hx j
 clear hld
 go_wp2_with fail
 refine (markTripS_any a1 _ c1 g.trips b1 kT _ T11 F11 d1 H1.out m1 HU1.out hkT.2 (by omega)).mono ?_
 rintro e w2 ⟨rfl, V1, G1, O2⟩
 rw [HW.out]
 have p0 : ∀ x ∈ b0, x < w1.heap.size := V0.lt strE
 have p2 : ∀ x ∈ b2, x < w1.heap.size := T21.lt wlkE
 have y22 : w2.cell? ⟨w.heap.size, 2, none⟩ = some (.slice a2 n2 c2) := by rw [O2.cell z1 N1]; exact y12
 have V02 := V0.alike strE (O2.alike p0 D01)
 have T22 := T21.alike wlkE (O2.alike p2 D21)
 have G02 : ∀ x ∈ b0, ∀ j, w2.frozen? ⟨x, j, none⟩ = false := fun x hx j => by rw [O2.frozen (p0 x hx) (D01 x hx)]; exact G0 x hx j
 have F22 : ∀ x ∈ b2, ∀ j, w2.frozen? ⟨x, j, none⟩ = false := fun x hx j => by rw [O2.frozen (p2 x hx) (D21 x hx)]; exact F21 x hx j
 clear y11 y12
 go_wp2_with fail
 refine (markWalkS_any a2 _ c2 g.walks b2 kW _ T22 F22 H2.out m2 hkW.2 (by omega)).mono ?_
 rintro e w3 ⟨rfl, V2, G2, O3⟩
 rw [HE.out]
 have r0 : ∀ x ∈ b0, x < w2.heap.size := V02.lt strE
 have r1 : ∀ x ∈ b1, x < w2.heap.size := V1.lt trpE
 have V03 := V02.alike strE (O3.alike r0 D02)
 have V13 := V1.alike trpE (O3.alike r1 D12)
 have HR : Hid (LinV w3 (.agg #[.slice a0 n0 c0, .slice a1 n1 c1, .slice a2 n2 c2]) (mkLin k g) (b0 ++ (b1 ++ b2))) := by
  refine ⟨a0, c0, a1, c1, a2, c2, b0, b1, b2, rfl, ?_, V03, ?_, ?_⟩
  ·rw [show (mkLin k g).stops.length = n0 from (mkStrs_len _ _).trans H0.out, show (mkLin k g).trips.length = n1 from (mkTrps_len _ _).trans H1.out, show (mkLin k g).walks.length = n2 from (mkWlks_len _ _).trans H2.out]
  ·show TrpL w3 a1 (mkTrps (mkLinT k g) g.trips) b1; rw [HEE.out.2.2]; exact V13
  ·show WlkL w3 a2 (mkWlks (mkLinW k g) g.walks) b2; rw [HEE.out.2.1]; exact V2
 have HF : Hid (∀ x ∈ b0 ++ (b1 ++ b2), ∀ j, w3.frozen? ⟨x, j, none⟩ = false) := fun x hx j => by
  rcases List.mem_append.1 hx with h | h
  ·rw [O3.frozen (r0 x h) (D02 x h)]; exact G02 x h j
  ·rcases List.mem_append.1 h with h | h
   ·rw [O3.frozen (r1 x h) (D12 x h)]; exact G1 x h j
   ·exact G2 x h j
 have HO : Hid (Onl (b0 ++ (b1 ++ b2)) w w3) := (((((Onl.refl _ w).bel S0).trans (O1.mono (fun x hx => List.mem_append.2 (.inl hx)))).trans (O2.mono (fun x hx => List.mem_append.2 (.inr (List.mem_append.2 (.inl hx)))))).trans (O3.mono (fun x hx => List.mem_append.2 (.inr (List.mem_append.2 (.inr hx))))))
 clear y22
 go_wp2
 go_ret
 exact ⟨rfl, HR.out, HF.out, HO.out⟩
end Go.Proofs.Ytkmccjjghpnejaa
