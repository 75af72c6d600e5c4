/-
  Whether a timetable can be, in the program: its lists gone through, and LinesOk.
-/
import Derived.Test.YtkmccjjghpnejaaLinI
import Derived.Test.YtkmccjjghpnejaaLinL
namespace Go.Proofs.Ytkmccjjghpnejaa
open Go.RowKit Go.Maps

set_option maxRecDepth 100000 in
set_option maxHeartbeats 2000000 in
theorem allS_r (a : Option Addr) (n c : Nat) (l : List ByteArray) (bs : List Nat) (r : Bool) (w : World) (hT : StrL w a l bs) (hn : l.length = n) (hm : n ≤ 1048576) (hr : l.all (valB) = r) :
  Calls Try.prog 54 #[.slice a n c, .func (.func 55) #[] #[]] w fun e w' => e = .returned (.bool r) ∧ Bel w w' := by
 have Hn : Hid (l.length = n) := hn
 have Hr : Hid (l.all (valB) = r) := hr
 clear hn hr
 go_enter Try.func54, Try.ntmps54
 go_wp2
 go_loopw [6, 9] (fun _ i wr => ∃ k : Nat, k ≤ n ∧ i = .int .i64 k ∧ (∀ j (h : j < l.length), j < k → valB l[j] = true) ∧ Bel w wr) (fun _ i _ => n - (intOf i).toNat)
 case atStart => exact ⟨0, Nat.zero_le _, rfl, fun j _ hj => absurd hj (Nat.not_lt_zero _), Bel.refl _⟩
 case round =>
  obtain ⟨k, hk, rfl, hall, hbel⟩ := hrel
  have H : Hid (∀ j (h : j < l.length), j < k → valB l[j] = true) := hall
  clear hall
  by_cases hlt : k < n
  rotate_left
  ·have HT : Hid (true = r) := (by rw [← Hr.out]; exact (listB_yes fun i h => H.out i h (by rw [Hn.out] at h; omega)).symm : true = r)
   go_wp2
   go_ret
   exact ⟨ret_bl HT.out, hbel⟩
  have hkl : k < l.length := by rw [Hn.out]; exact hlt
  obtain ⟨b, off, f, rfl, hb, hx⟩ := (hT.bel strE hbel).out hkl
  obtain ⟨_, s0, z0⟩ := hx k hkl
  simp only [Nat.mul_one] at z0
  obtain ⟨d, Hd⟩ : ∃ d, Hid (d = l[k]) := ⟨_, (rfl : l[k] = _)⟩
  rw [← Hd.out] at z0 s0
  clear hx hT
  rcases Bool.eq_false_or_eq_true (valB d) with hf | hf
  ·have HA : Hid (valB l[k] = true) := by rw [← Hd.out]; exact hf
   go_wp2_with fail
   refine (valueOk_r d true _ s0 hf).mono ?_
   rintro e w1 ⟨rfl, rfl⟩
   clear z0 hb
   go_wp2
   go_roundw
   case rel => exact ⟨k + 1, by omega, by go_num, fun j h hj => by
           (by_cases e : j = k)
           ·subst e; exact HA.out
           ·exact H.out j h (by omega), hbel⟩
   case measure => simp [intOf]; omega
  ·have HF : Hid (false = r) := by rw [← Hr.out]; exact (listB_no hkl (by rw [← Hd.out]; exact hf)).symm
   go_wp2_with fail
   refine (valueOk_r d false _ s0 hf).mono ?_
   rintro e w1 ⟨rfl, rfl⟩
   clear z0 hb
   go_wp2
   go_ret
   exact ⟨ret_bl HF.out, hbel⟩

set_option maxRecDepth 100000 in
set_option maxHeartbeats 2000000 in
theorem allT_r (a0 : Option Addr) (n0 c0 : Nat) (a1 : Option Addr) (n1 c1 : Nat) (a2 : Option Addr) (n2 c2 : Nat) (a : Option Addr) (n c : Nat) (l : List TrpD) (bs : List Nat) (r : Bool) (w : World) (hT : TrpL w a l bs) (hn : l.length = n) (hm : n ≤ 1048576) (hs : ∀ i (h : i < l.length), l[i].calls.length ≤ 1048576) (hr : l.all (tripB n0) = r) :
  Calls Try.prog 56 #[.slice a n c, .func (.func 57) #[(.agg #[.slice a0 n0 c0, .slice a1 n1 c1, .slice a2 n2 c2])] #[]] w fun e w' => e = .returned (.bool r) ∧ Bel w w' := by
 have Hn : Hid (l.length = n) := hn
 have Hr : Hid (l.all (tripB n0) = r) := hr
 clear hn hr
 go_enter Try.func56, Try.ntmps56
 go_wp2
 go_loopw [6, 9] (fun _ i wr => ∃ k : Nat, k ≤ n ∧ i = .int .i64 k ∧ (∀ j (h : j < l.length), j < k → tripB n0 l[j] = true) ∧ Bel w wr) (fun _ i _ => n - (intOf i).toNat)
 case atStart => exact ⟨0, Nat.zero_le _, rfl, fun j _ hj => absurd hj (Nat.not_lt_zero _), Bel.refl _⟩
 case round =>
  obtain ⟨k, hk, rfl, hall, hbel⟩ := hrel
  have H : Hid (∀ j (h : j < l.length), j < k → tripB n0 l[j] = true) := hall
  clear hall
  by_cases hlt : k < n
  rotate_left
  ·have HT : Hid (true = r) := (by rw [← Hr.out]; exact (listB_yes fun i h => H.out i h (by rw [Hn.out] at h; omega)).symm : true = r)
   go_wp2
   go_ret
   exact ⟨ret_bl HT.out, hbel⟩
  have hkl : k < l.length := by rw [Hn.out]; exact hlt
  obtain ⟨b, off, f, rfl, hb, hx⟩ := (hT.bel trpE hbel).out hkl
  obtain ⟨s0, i1, z0, z1, ca, cc, hcl, z2, tc⟩ := hx k hkl
  have hcl2 := hs k hkl
  obtain ⟨d, Hd⟩ : ∃ d, Hid (d = l[k]) := ⟨_, (rfl : l[k] = _)⟩
  rw [← Hd.out] at z0 z1 z2 s0 tc hcl2
  clear hx hT i1 hcl
  rcases Bool.eq_false_or_eq_true (tripB n0 d) with hf | hf
  ·have HA : Hid (tripB n0 l[k] = true) := by rw [← Hd.out]; exact hf
   go_wp2_with fail
   refine (tripOk_r a0 n0 c0 a1 n1 c1 a2 n2 c2 d ca d.calls.length cc _ true _ (tc.bel calE (bel_alloc (Bel.refl _) _)) rfl hcl2 s0 hf).mono ?_
   rintro e w1 ⟨rfl, hb1⟩
   have hB1 := bel_step (bel_alloc hbel _) hb1
   clear z0 z1 z2 hb
   go_wp2
   go_roundw
   case rel => exact ⟨k + 1, by omega, by go_num, fun j h hj => by
           (by_cases e : j = k)
           ·subst e; exact HA.out
           ·exact H.out j h (by omega), hB1⟩
   case measure => simp [intOf]; omega
  ·have HF : Hid (false = r) := by rw [← Hr.out]; exact (listB_no hkl (by rw [← Hd.out]; exact hf)).symm
   go_wp2_with fail
   refine (tripOk_r a0 n0 c0 a1 n1 c1 a2 n2 c2 d ca d.calls.length cc _ false _ (tc.bel calE (bel_alloc (Bel.refl _) _)) rfl hcl2 s0 hf).mono ?_
   rintro e w1 ⟨rfl, hb1⟩
   have hB1 := bel_step (bel_alloc hbel _) hb1
   clear z0 z1 z2 hb
   go_wp2
   go_ret
   exact ⟨ret_bl HF.out, hB1⟩

set_option maxRecDepth 100000 in
set_option maxHeartbeats 2000000 in
theorem allW_r (a0 : Option Addr) (n0 c0 : Nat) (a1 : Option Addr) (n1 c1 : Nat) (a2 : Option Addr) (n2 c2 : Nat) (a : Option Addr) (n c : Nat) (l : List WlkD) (bs : List Nat) (r : Bool) (w : World) (hT : WlkL w a l bs) (hn : l.length = n) (hm : n ≤ 1048576) (hr : l.all (walkB n0) = r) :
  Calls Try.prog 58 #[.slice a n c, .func (.func 59) #[(.agg #[.slice a0 n0 c0, .slice a1 n1 c1, .slice a2 n2 c2])] #[]] w fun e w' => e = .returned (.bool r) ∧ Bel w w' := by
 have Hn : Hid (l.length = n) := hn
 have Hr : Hid (l.all (walkB n0) = r) := hr
 clear hn hr
 go_enter Try.func58, Try.ntmps58
 go_wp2
 go_loopw [6, 9] (fun _ i wr => ∃ k : Nat, k ≤ n ∧ i = .int .i64 k ∧ (∀ j (h : j < l.length), j < k → walkB n0 l[j] = true) ∧ Bel w wr) (fun _ i _ => n - (intOf i).toNat)
 case atStart => exact ⟨0, Nat.zero_le _, rfl, fun j _ hj => absurd hj (Nat.not_lt_zero _), Bel.refl _⟩
 case round =>
  obtain ⟨k, hk, rfl, hall, hbel⟩ := hrel
  have H : Hid (∀ j (h : j < l.length), j < k → walkB n0 l[j] = true) := hall
  clear hall
  by_cases hlt : k < n
  rotate_left
  ·have HT : Hid (true = r) := (by rw [← Hr.out]; exact (listB_yes fun i h => H.out i h (by rw [Hn.out] at h; omega)).symm : true = r)
   go_wp2
   go_ret
   exact ⟨ret_bl HT.out, hbel⟩
  have hkl : k < l.length := by rw [Hn.out]; exact hlt
  obtain ⟨b, off, f, rfl, hb, hx⟩ := (hT.bel wlkE hbel).out hkl
  obtain ⟨_, i0, i1, i2, z0, z1, z2⟩ := hx k hkl
  obtain ⟨d, Hd⟩ : ∃ d, Hid (d = l[k]) := ⟨_, (rfl : l[k] = _)⟩
  rw [← Hd.out] at z0 z1 z2
  clear hx hT i0 i1 i2
  rcases Bool.eq_false_or_eq_true (walkB n0 d) with hf | hf
  ·have HA : Hid (walkB n0 l[k] = true) := by rw [← Hd.out]; exact hf
   go_wp2_with fail
   refine (walkOk_r a0 n0 c0 a1 n1 c1 a2 n2 c2 d true _ hf).mono ?_
   rintro e w1 ⟨rfl, hb1⟩
   have hB1 := bel_step (bel_alloc hbel _) hb1
   clear z0 z1 z2 hb
   go_wp2
   go_roundw
   case rel => exact ⟨k + 1, by omega, by go_num, fun j h hj => by
           (by_cases e : j = k)
           ·subst e; exact HA.out
           ·exact H.out j h (by omega), hB1⟩
   case measure => simp [intOf]; omega
  ·have HF : Hid (false = r) := by rw [← Hr.out]; exact (listB_no hkl (by rw [← Hd.out]; exact hf)).symm
   go_wp2_with fail
   refine (walkOk_r a0 n0 c0 a1 n1 c1 a2 n2 c2 d false _ hf).mono ?_
   rintro e w1 ⟨rfl, hb1⟩
   have hB1 := bel_step (bel_alloc hbel _) hb1
   clear z0 z1 z2 hb
   go_wp2
   go_ret
   exact ⟨ret_bl HF.out, hB1⟩

set_option maxRecDepth 100000 in
set_option maxHeartbeats 4000000 in
theorem linesOk_r (v : Value) (g : LinesD) (bs : List Nat) (r : Bool) (w : World) (hV : LinV w v g bs) (hQ : LinQ g) (h : linesB g = r) :
  Calls Try.prog 17 #[v] w fun e w' => e = .returned (.bool r) ∧ Bel w w' := by
 have Hr : Hid (linesB g = r) := h
 clear h
 obtain ⟨a0, c0, a1, c1, a2, c2, b0, b1, b2, _, rfl, t0, t1, t2⟩ := hV
 obtain ⟨q0, q1, q2, q3⟩ := hQ
 obtain ⟨n0, H0⟩ : ∃ n, Hid (g.stops.length = n) := ⟨_, (rfl : g.stops.length = _)⟩
 obtain ⟨n1, H1⟩ : ∃ n, Hid (g.trips.length = n) := ⟨_, (rfl : g.trips.length = _)⟩
 obtain ⟨n2, H2⟩ : ∃ n, Hid (g.walks.length = n) := ⟨_, (rfl : g.walks.length = _)⟩
 have HQ : Hid (∀ i (h : i < g.trips.length), g.trips[i].calls.length ≤ 1048576) := q3
 rw [H0.out, H1.out, H2.out]
 rw [H0.out] at q0
 rw [H1.out] at q1
 rw [H2.out] at q2
 clear q3
 have hB0 : Bel w (w.alloc (.cells #[.slice a0 n0 c0, .slice a1 n1 c1, .slice a2 n2 c2] 49)) := bel_alloc (Bel.refl _) _
 have X0 : Blk (w.alloc (.cells #[.slice a0 n0 c0, .slice a1 n1 c1, .slice a2 n2 c2] 49)) w.heap.size [.slice a0 n0 c0, .slice a1 n1 c1, .slice a2 n2 c2] := Blk.new w [.slice a0 n0 c0, .slice a1 n1 c1, .slice a2 n2 c2] 49
 by_cases k0 : n0 ≤ 200
 ·have ek0 := decide_eq_true k0
  by_cases k1 : n1 ≤ 500
  ·have ek1 := decide_eq_true k1
   by_cases k2 : n2 ≤ 300
   ·have ek2 := decide_eq_true k2
    rcases Bool.eq_false_or_eq_true (g.stops.all valB) with k3 | k3
    ·skip
     rcases Bool.eq_false_or_eq_true (g.trips.all (tripB n0)) with k4 | k4
     ·skip
      rcases Bool.eq_false_or_eq_true (g.walks.all (walkB n0)) with k5 | k5
      ·skip
       have HR : Hid (true = r) := (by rw [← Hr.out]; unfold linesB; rw [H0.out, H1.out, H2.out, ek0, ek1, ek2, k3, k4, k5] <;> simp : true = r)
       have i0 : (n0 : Int) ≤ 200 := by omega
       have i1 : (n1 : Int) ≤ 500 := by omega
       have i2 : (n2 : Int) ≤ 300 := by omega
       clear ek0 ek1 ek2
       go_enter Try.func17, Try.ntmps17
       go_wp2_with fail
       refine (allS_r _ _ _ g.stops b0 _ _ (t0.bel strE hB0) H0.out q0 k3).mono ?_
       rintro e w1 ⟨rfl, hb1⟩
       have hB1 := bel_step hB0 hb1
       have X1 := X0.bel hb1
       have x10 : w1.cell? ⟨w.heap.size, 0, none⟩ = some (.slice a0 n0 c0) := X1.cell 0 (by simp)
       have x11 : w1.cell? ⟨w.heap.size, 1, none⟩ = some (.slice a1 n1 c1) := X1.cell 1 (by simp)
       have x12 : w1.cell? ⟨w.heap.size, 2, none⟩ = some (.slice a2 n2 c2) := X1.cell 2 (by simp)
       have xl1 := X1.lt
       go_wp2_with fail
       refine (allT_r _ _ _ _ _ _ _ _ _ _ _ _ g.trips b1 _ _ (t1.bel trpE hB1) H1.out q1 HQ.out k4).mono ?_
       rintro e w2 ⟨rfl, hb2⟩
       have hB2 := bel_step hB1 hb2
       have X2 := X1.bel hb2
       have x20 : w2.cell? ⟨w.heap.size, 0, none⟩ = some (.slice a0 n0 c0) := X2.cell 0 (by simp)
       have x21 : w2.cell? ⟨w.heap.size, 1, none⟩ = some (.slice a1 n1 c1) := X2.cell 1 (by simp)
       have x22 : w2.cell? ⟨w.heap.size, 2, none⟩ = some (.slice a2 n2 c2) := X2.cell 2 (by simp)
       have xl2 := X2.lt
       go_wp2_with fail
       refine (allW_r _ _ _ _ _ _ _ _ _ _ _ _ g.walks b2 _ _ (t2.bel wlkE hB2) H2.out q2 k5).mono ?_
       rintro e w3 ⟨rfl, hb3⟩
       have hB3 := bel_step hB2 hb3
       have X3 := X2.bel hb3
       have x30 : w3.cell? ⟨w.heap.size, 0, none⟩ = some (.slice a0 n0 c0) := X3.cell 0 (by simp)
       have x31 : w3.cell? ⟨w.heap.size, 1, none⟩ = some (.slice a1 n1 c1) := X3.cell 1 (by simp)
       have x32 : w3.cell? ⟨w.heap.size, 2, none⟩ = some (.slice a2 n2 c2) := X3.cell 2 (by simp)
       have xl3 := X3.lt
       go_wp2
       go_ret
       exact ⟨ret_bl HR.out, hB3⟩
      ·skip
       have HR : Hid (false = r) := (by rw [← Hr.out]; unfold linesB; rw [H0.out, H1.out, H2.out, ek0, ek1, ek2, k3, k4, k5] <;> simp : false = r)
       have i0 : (n0 : Int) ≤ 200 := by omega
       have i1 : (n1 : Int) ≤ 500 := by omega
       have i2 : (n2 : Int) ≤ 300 := by omega
       clear ek0 ek1 ek2
       go_enter Try.func17, Try.ntmps17
       go_wp2_with fail
       refine (allS_r _ _ _ g.stops b0 _ _ (t0.bel strE hB0) H0.out q0 k3).mono ?_
       rintro e w1 ⟨rfl, hb1⟩
       have hB1 := bel_step hB0 hb1
       have X1 := X0.bel hb1
       have x10 : w1.cell? ⟨w.heap.size, 0, none⟩ = some (.slice a0 n0 c0) := X1.cell 0 (by simp)
       have x11 : w1.cell? ⟨w.heap.size, 1, none⟩ = some (.slice a1 n1 c1) := X1.cell 1 (by simp)
       have x12 : w1.cell? ⟨w.heap.size, 2, none⟩ = some (.slice a2 n2 c2) := X1.cell 2 (by simp)
       have xl1 := X1.lt
       go_wp2_with fail
       refine (allT_r _ _ _ _ _ _ _ _ _ _ _ _ g.trips b1 _ _ (t1.bel trpE hB1) H1.out q1 HQ.out k4).mono ?_
       rintro e w2 ⟨rfl, hb2⟩
       have hB2 := bel_step hB1 hb2
       have X2 := X1.bel hb2
       have x20 : w2.cell? ⟨w.heap.size, 0, none⟩ = some (.slice a0 n0 c0) := X2.cell 0 (by simp)
       have x21 : w2.cell? ⟨w.heap.size, 1, none⟩ = some (.slice a1 n1 c1) := X2.cell 1 (by simp)
       have x22 : w2.cell? ⟨w.heap.size, 2, none⟩ = some (.slice a2 n2 c2) := X2.cell 2 (by simp)
       have xl2 := X2.lt
       go_wp2_with fail
       refine (allW_r _ _ _ _ _ _ _ _ _ _ _ _ g.walks b2 _ _ (t2.bel wlkE hB2) H2.out q2 k5).mono ?_
       rintro e w3 ⟨rfl, hb3⟩
       have hB3 := bel_step hB2 hb3
       have X3 := X2.bel hb3
       have x30 : w3.cell? ⟨w.heap.size, 0, none⟩ = some (.slice a0 n0 c0) := X3.cell 0 (by simp)
       have x31 : w3.cell? ⟨w.heap.size, 1, none⟩ = some (.slice a1 n1 c1) := X3.cell 1 (by simp)
       have x32 : w3.cell? ⟨w.heap.size, 2, none⟩ = some (.slice a2 n2 c2) := X3.cell 2 (by simp)
       have xl3 := X3.lt
       go_wp2
       go_ret
       exact ⟨ret_bl HR.out, hB3⟩
     ·skip
      have HR : Hid (false = r) := (by rw [← Hr.out]; unfold linesB; rw [H0.out, H1.out, H2.out, ek0, ek1, ek2, k3, k4] <;> simp : false = r)
      have i0 : (n0 : Int) ≤ 200 := by omega
      have i1 : (n1 : Int) ≤ 500 := by omega
      have i2 : (n2 : Int) ≤ 300 := by omega
      clear ek0 ek1 ek2
      go_enter Try.func17, Try.ntmps17
      go_wp2_with fail
      refine (allS_r _ _ _ g.stops b0 _ _ (t0.bel strE hB0) H0.out q0 k3).mono ?_
      rintro e w1 ⟨rfl, hb1⟩
      have hB1 := bel_step hB0 hb1
      have X1 := X0.bel hb1
      have x10 : w1.cell? ⟨w.heap.size, 0, none⟩ = some (.slice a0 n0 c0) := X1.cell 0 (by simp)
      have x11 : w1.cell? ⟨w.heap.size, 1, none⟩ = some (.slice a1 n1 c1) := X1.cell 1 (by simp)
      have x12 : w1.cell? ⟨w.heap.size, 2, none⟩ = some (.slice a2 n2 c2) := X1.cell 2 (by simp)
      have xl1 := X1.lt
      go_wp2_with fail
      refine (allT_r _ _ _ _ _ _ _ _ _ _ _ _ g.trips b1 _ _ (t1.bel trpE hB1) H1.out q1 HQ.out k4).mono ?_
      rintro e w2 ⟨rfl, hb2⟩
      have hB2 := bel_step hB1 hb2
      have X2 := X1.bel hb2
      have x20 : w2.cell? ⟨w.heap.size, 0, none⟩ = some (.slice a0 n0 c0) := X2.cell 0 (by simp)
      have x21 : w2.cell? ⟨w.heap.size, 1, none⟩ = some (.slice a1 n1 c1) := X2.cell 1 (by simp)
      have x22 : w2.cell? ⟨w.heap.size, 2, none⟩ = some (.slice a2 n2 c2) := X2.cell 2 (by simp)
      have xl2 := X2.lt
      go_wp2
      go_ret
      exact ⟨ret_bl HR.out, hB2⟩
    ·skip
     have HR : Hid (false = r) := (by rw [← Hr.out]; unfold linesB; rw [H0.out, H1.out, H2.out, ek0, ek1, ek2, k3] <;> simp : false = r)
     have i0 : (n0 : Int) ≤ 200 := by omega
     have i1 : (n1 : Int) ≤ 500 := by omega
     have i2 : (n2 : Int) ≤ 300 := by omega
     clear ek0 ek1 ek2
     go_enter Try.func17, Try.ntmps17
     go_wp2_with fail
     refine (allS_r _ _ _ g.stops b0 _ _ (t0.bel strE hB0) H0.out q0 k3).mono ?_
     rintro e w1 ⟨rfl, hb1⟩
     have hB1 := bel_step hB0 hb1
     have X1 := X0.bel hb1
     have x10 : w1.cell? ⟨w.heap.size, 0, none⟩ = some (.slice a0 n0 c0) := X1.cell 0 (by simp)
     have x11 : w1.cell? ⟨w.heap.size, 1, none⟩ = some (.slice a1 n1 c1) := X1.cell 1 (by simp)
     have x12 : w1.cell? ⟨w.heap.size, 2, none⟩ = some (.slice a2 n2 c2) := X1.cell 2 (by simp)
     have xl1 := X1.lt
     go_wp2
     go_ret
     exact ⟨ret_bl HR.out, hB1⟩
   ·have ek2 := decide_eq_false k2
    have HR : Hid (false = r) := (by rw [← Hr.out]; unfold linesB; rw [H0.out, H1.out, H2.out, ek0, ek1, ek2] <;> simp : false = r)
    have i0 : (n0 : Int) ≤ 200 := by omega
    have i1 : (n1 : Int) ≤ 500 := by omega
    have i2 : ¬ (n2 : Int) ≤ 300 := by omega
    clear ek0 ek1 ek2
    go_enter Try.func17, Try.ntmps17
    go_wp2
    go_ret
    exact ⟨ret_bl HR.out, hB0⟩
  ·have ek1 := decide_eq_false k1
   have HR : Hid (false = r) := (by rw [← Hr.out]; unfold linesB; rw [H0.out, H1.out, ek0, ek1] <;> simp : false = r)
   have i0 : (n0 : Int) ≤ 200 := by omega
   have i1 : ¬ (n1 : Int) ≤ 500 := by omega
   clear ek0 ek1
   go_enter Try.func17, Try.ntmps17
   go_wp2
   go_ret
   exact ⟨ret_bl HR.out, hB0⟩
 ·have ek0 := decide_eq_false k0
  have HR : Hid (false = r) := (by rw [← Hr.out]; unfold linesB; rw [H0.out, ek0] <;> simp : false = r)
  have i0 : ¬ (n0 : Int) ≤ 200 := by omega
  clear ek0
  go_enter Try.func17, Try.ntmps17
  go_wp2
  go_ret
  exact ⟨ret_bl HR.out, hB0⟩

end Go.Proofs.Ytkmccjjghpnejaa
