/-
  Whether a timetable can be: the model's LinesOk.
-/
import Derived.Test.YtkmccjjghpnejaaLinS
namespace Go.Proofs.Ytkmccjjghpnejaa
open Go.RowKit Go.Maps

set_option maxRecDepth 100000 in
set_option maxHeartbeats 4000000 in
theorem specLinesOk_r (v : Value) (g : LinesD) (bs : List Nat) (r : Bool) (w : World) (hV : LinV w v g bs) (hQ : LinQ g) (h : linesB g = r) :
  Calls Try.prog 15 #[v] w fun e w' => e = .returned (.bool r) ∧ Bel w w' := by
 have Hr : Hid (linesB g = r) := h
 clear h
 obtain ⟨a0, c0, a1, c1, a2, c2, b0, b1, b2, _, rfl, t0, t1, t2⟩ := hV
 obtain ⟨q0, q1, q2, q3⟩ := hQ
 obtain ⟨n0, H0⟩ : ∃ n, Hid (g.stops.length = n) := ⟨_, (rfl : g.stops.length = _)⟩
 obtain ⟨n1, H1⟩ : ∃ n, Hid (g.trips.length = n) := ⟨_, (rfl : g.trips.length = _)⟩
 obtain ⟨n2, H2⟩ : ∃ n, Hid (g.walks.length = n) := ⟨_, (rfl : g.walks.length = _)⟩
 have HQ : Hid (∀ i (h : i < g.trips.length), g.trips[i].calls.length ≤ 1048576) := q3
 rw [H0.out, H1.out, H2.out]
 rw [H0.out] at q0
 rw [H1.out] at q1
 rw [H2.out] at q2
 clear q3
 obtain ⟨W, HW⟩ : ∃ W, Hid (W = w.alloc (.cells #[.slice a0 n0 c0, .slice a1 n1 c1, .slice a2 n2 c2] 49)) := ⟨_, (rfl : w.alloc (.cells #[.slice a0 n0 c0, .slice a1 n1 c1, .slice a2 n2 c2] 49) = _)⟩
 have hB0 : Bel w W := by rw [HW.out]; exact bel_alloc (Bel.refl _) _
 have X0 : Blk W w.heap.size [.slice a0 n0 c0, .slice a1 n1 c1, .slice a2 n2 c2] := by rw [HW.out]; exact Blk.new w [.slice a0 n0 c0, .slice a1 n1 c1, .slice a2 n2 c2] 49
 by_cases k0 : n0 ≤ 200
 rotate_left
 ·have ek0 := decide_eq_false k0
  have HR : Hid (false = r) := (by rw [← Hr.out]; unfold linesB; rw [H0.out, ek0] <;> simp : false = r)
  have i0 : ¬ (n0 : Int) ≤ 200 := by omega
  clear ek0
  go_enter Try.func15, Try.ntmps15
  go_wp2
  go_ret
  exact ⟨ret_bl HR.out, by rw [← HW.out]; exact hB0⟩
 have ek0 := decide_eq_true k0
 by_cases k1 : n1 ≤ 500
 rotate_left
 ·have ek1 := decide_eq_false k1
  have HR : Hid (false = r) := (by rw [← Hr.out]; unfold linesB; rw [H0.out, H1.out, ek0, ek1] <;> simp : false = r)
  have i0 : (n0 : Int) ≤ 200 := by omega
  have i1 : ¬ (n1 : Int) ≤ 500 := by omega
  clear ek0 ek1
  go_enter Try.func15, Try.ntmps15
  go_wp2
  go_ret
  exact ⟨ret_bl HR.out, by rw [← HW.out]; exact hB0⟩
 have ek1 := decide_eq_true k1
 by_cases k2 : n2 ≤ 300
 rotate_left
 ·have ek2 := decide_eq_false k2
  have HR : Hid (false = r) := (by rw [← Hr.out]; unfold linesB; rw [H0.out, H1.out, H2.out, ek0, ek1, ek2] <;> simp : false = r)
  have i0 : (n0 : Int) ≤ 200 := by omega
  have i1 : (n1 : Int) ≤ 500 := by omega
  have i2 : ¬ (n2 : Int) ≤ 300 := by omega
  clear ek0 ek1 ek2
  go_enter Try.func15, Try.ntmps15
  go_wp2
  go_ret
  exact ⟨ret_bl HR.out, by rw [← HW.out]; exact hB0⟩
 have ek2 := decide_eq_true k2
 have HA : Hid ((g.stops.all valB && g.trips.all (tripB n0) && g.walks.all (walkB n0)) = r) := (by rw [← Hr.out]; unfold linesB; rw [H0.out, H1.out, H2.out, ek0, ek1, ek2] <;> simp : (g.stops.all valB && g.trips.all (tripB n0) && g.walks.all (walkB n0)) = r)
 have i0 : (n0 : Int) ≤ 200 := by omega
 have i1 : (n1 : Int) ≤ 500 := by omega
 have i2 : (n2 : Int) ≤ 300 := by omega
 clear ek0 ek1 ek2
 go_enter Try.func15, Try.ntmps15
 go_upto_region 3 with fail
 rw [← HW.out]
 have xl0 := X0.lt
 have x00 : W.cell? ⟨w.heap.size, 0, none⟩ = some (.slice a0 n0 c0) := X0.cell 0 (by simp)
 go_wp2
 go_loopw [3] (fun i wr => ∃ k : Nat, k ≤ n0 ∧ i = .int .i64 k ∧ (∀ j (h : j < g.stops.length), j < k → valB g.stops[j] = true) ∧ Bel W wr) (fun i _ => n0 - (intOf i).toNat)
 case atStart => exact ⟨0, Nat.zero_le _, rfl, fun j _ hj => absurd hj (Nat.not_lt_zero _), Bel.refl _⟩
 case round =>
  obtain ⟨k, hk, rfl, hall, hbel⟩ := hrel
  have HS : Hid (∀ j (h : j < g.stops.length), j < k → valB g.stops[j] = true) := hall
  clear hall
  have X1 := X0.bel hbel
  have x10 : wr.cell? ⟨w.heap.size, 0, none⟩ = some (.slice a0 n0 c0) := X1.cell 0 (by simp)
  have x11 : wr.cell? ⟨w.heap.size, 1, none⟩ = some (.slice a1 n1 c1) := X1.cell 1 (by simp)
  have xl1 := X1.lt
  clear x00
  by_cases hlt : k < n0
  ·have hkl : k < g.stops.length := by rw [H0.out]; exact hlt
   obtain ⟨b, off, f, rfl, hb, hx⟩ := (t0.bel strE (bel_step hB0 hbel)).out hkl
   obtain ⟨_, s0, z0⟩ := hx k hkl
   simp only [Nat.mul_one] at z0
   obtain ⟨d, Hd⟩ : ∃ d, Hid (d = g.stops[k]) := ⟨_, (rfl : g.stops[k] = _)⟩
   rw [← Hd.out] at z0 s0
   clear hx t0
   have hlt' : (k : Int) < (n0 : Int) := by omega
   rcases Bool.eq_false_or_eq_true (valB d) with hf | hf
   ·have HC : Hid (valB g.stops[k] = true) := by rw [← Hd.out]; exact hf
    go_wp2_with fail
    refine (l2ValueOk_r d true _ s0 hf).mono ?_
    rintro e w' ⟨rfl, rfl⟩
    go_wp2
    go_roundw
    case rel => exact ⟨k + 1, by omega, by go_num, fun j h hj => by
            (by_cases e : j = k)
            ·subst e; exact HC.out
            ·exact HS.out j h (by omega), hbel⟩
    case measure => simp [intOf]; omega
   ·have HF : Hid (false = r) := by rw [← HA.out, listB_no hkl (by rw [← Hd.out]; exact hf)]; rfl
    go_wp2_with fail
    refine (l2ValueOk_r d false _ s0 hf).mono ?_
    rintro e w' ⟨rfl, rfl⟩
    go_wp2
    go_ret
    exact ⟨ret_bl HF.out, bel_step hB0 hbel⟩
  have HS1 : Hid (g.stops.all valB = true) := listB_yes fun i h => HS.out i h (by rw [H0.out] at h; omega)
  have HA1 : Hid ((g.trips.all (tripB n0) && g.walks.all (walkB n0)) = r) := (by have h1 := HA.out; rw [HS1.out, Bool.true_and] at h1; exact h1 : (g.trips.all (tripB n0) && g.walks.all (walkB n0)) = r)
  have hlt' : ¬ (k : Int) < (n0 : Int) := by omega
  have hB1 := bel_step hB0 hbel
  clear HS HS1 HA t0 X0
  go_wp2
  go_loopw [4] (fun i wr' => ∃ k : Nat, k ≤ n1 ∧ i = .int .i64 k ∧ (∀ j (h : j < g.trips.length), j < k → tripB n0 g.trips[j] = true) ∧ Bel wr wr') (fun i _ => n1 - (intOf i).toNat)
  case atStart => exact ⟨0, Nat.zero_le _, rfl, fun j _ hj => absurd hj (Nat.not_lt_zero _), Bel.refl _⟩
  case round =>
   obtain ⟨m, hm, rfl, hall, hbel2⟩ := hrel
   have HS : Hid (∀ j (h : j < g.trips.length), j < m → tripB n0 g.trips[j] = true) := hall
   clear hall hlt' x10 x11
   have X2 := X1.bel hbel2
   have x21 : wr.cell? ⟨w.heap.size, 1, none⟩ = some (.slice a1 n1 c1) := X2.cell 1 (by simp)
   have x20 : wr.cell? ⟨w.heap.size, 0, none⟩ = some (.slice a0 n0 c0) := X2.cell 0 (by simp)
   have x22 : wr.cell? ⟨w.heap.size, 2, none⟩ = some (.slice a2 n2 c2) := X2.cell 2 (by simp)
   have xl2 := X2.lt
   by_cases hlt : m < n1
   ·have hkl : m < g.trips.length := by rw [H1.out]; exact hlt
    obtain ⟨b, off, f, rfl, hb, hx⟩ := (t1.bel trpE (bel_step hB1 hbel2)).out hkl
    obtain ⟨s0, i1', z0, z1, ca, cc, hcl, z2, tc⟩ := hx m hkl
    have hcl2 := HQ.out m hkl
    obtain ⟨d, Hd⟩ : ∃ d, Hid (d = g.trips[m]) := ⟨_, (rfl : g.trips[m] = _)⟩
    rw [← Hd.out] at z0 z1 z2 s0 tc hcl2
    clear hx t1 i1' hcl
    have hlt' : (m : Int) < (n1 : Int) := by omega
    have hR : ∀ w', Bel wr w' → w'.cell? ⟨w.heap.size, 0, none⟩ = some (.slice a0 n0 c0) ∧ w'.cell? ⟨w.heap.size, 1, none⟩ = some (.slice (some ⟨b, off, none⟩) n1 c1) ∧ w'.cell? ⟨w.heap.size, 2, none⟩ = some (.slice a2 n2 c2) ∧ w'.cell? ⟨b, off + m * 3, none⟩ = some (.string d.line) ∧ w'.cell? ⟨b, off + m * 3 + 1, none⟩ = some (.int .i64 d.days) ∧ w'.cell? ⟨b, off + m * 3 + 2, none⟩ = some (.slice ca d.calls.length cc) :=
     fun w' h => ⟨(X2.bel h).cell 0 (by simp), (X2.bel h).cell 1 (by simp), (X2.bel h).cell 2 (by simp), bel_cellM h hb z0, bel_cellM h hb z1, bel_cellM h hb z2⟩
    have g0 : Bel wr wr := Bel.refl _
    have hC : ∀ w', Bel wr w' → CalL w' ca d.calls (f m) := fun w' h => tc.bel calE h
    clear z0 z1 z2 tc x20 x21 x22
    rcases Bool.eq_false_or_eq_true (tripB n0 d) with hf | hf
    ·have HC : Hid (tripB n0 g.trips[m] = true) := by rw [← Hd.out]; exact hf
     go_wp2
     go_region_held3 (fun w' => Bel wr w') (with_reducible (repeat (first | assumption | exact g0 | refine Bel.drew ?_ | refine bel_then (by assumption) ?_)))
      (first
       | (go_at_call 50; refine (l15TripOk_r _ _ _ _ _ _ _ _ _ d _ _ _ _ true _ (hC _ (by assumption)) rfl hcl2 s0 hf).mono ?_; rintro e w3 ⟨rfl, hb3⟩))
     have hH : Bel wr w3 := by assumption
     go_wp2
     go_roundw
     case rel => exact ⟨m + 1, by omega, by go_num, fun j h hj => by
             (by_cases e : j = m)
             ·subst e; exact HC.out
             ·exact HS.out j h (by omega), bel_step hbel2 hH⟩
     case measure => simp [intOf]; omega
    ·have HF : Hid (false = r) := by rw [← HA1.out, listB_no hkl (by rw [← Hd.out]; exact hf)]; rfl
     go_wp2
     go_region_held3 (fun w' => Bel wr w') (with_reducible (repeat (first | assumption | exact g0 | refine Bel.drew ?_ | refine bel_then (by assumption) ?_)))
      (first
       | (go_at_call 50; refine (l15TripOk_r _ _ _ _ _ _ _ _ _ d _ _ _ _ false _ (hC _ (by assumption)) rfl hcl2 s0 hf).mono ?_; rintro e w3 ⟨rfl, hb3⟩))
     have hH : Bel wr w3 := by assumption
     go_wp2
     go_ret
     exact ⟨ret_bl HF.out, bel_step hB1 (bel_step hbel2 hH)⟩
   have HS2 : Hid (g.trips.all (tripB n0) = true) := listB_yes fun i h => HS.out i h (by rw [H1.out] at h; omega)
   have HA2 : Hid (g.walks.all (walkB n0) = r) := (by have h1 := HA1.out; rw [HS2.out, Bool.true_and] at h1; exact h1 : g.walks.all (walkB n0) = r)
   have hlt' : ¬ (m : Int) < (n1 : Int) := by omega
   have hB2 := bel_step hB1 hbel2
   clear HS HS2 HA1 t1 X1 HQ
   go_wp2
   go_loopw [6, 7] (fun i _ wr' => ∃ k : Nat, k ≤ n2 ∧ i = .int .i64 k ∧ (∀ j (h : j < g.walks.length), j < k → walkB n0 g.walks[j] = true) ∧ Bel wr wr') (fun i _ _ => n2 - (intOf i).toNat)
   case atStart => exact ⟨0, Nat.zero_le _, rfl, fun j _ hj => absurd hj (Nat.not_lt_zero _), Bel.refl _⟩
   case round =>
    obtain ⟨q, hq, rfl, hall, hbel3⟩ := hrel
    have HS : Hid (∀ j (h : j < g.walks.length), j < q → walkB n0 g.walks[j] = true) := hall
    clear hall hlt' x20 x21 x22
    have X3 := X2.bel hbel3
    have x32 : wr.cell? ⟨w.heap.size, 2, none⟩ = some (.slice a2 n2 c2) := X3.cell 2 (by simp)
    have xl3 := X3.lt
    by_cases hlt : q < n2
    rotate_left
    ·have HT : Hid (true = r) := (by rw [← HA2.out]; exact (listB_yes fun i h => HS.out i h (by rw [H2.out] at h; omega)).symm : true = r)
     have hlt' : ¬ (q : Int) < (n2 : Int) := by omega
     go_wp2
     go_ret
     exact ⟨ret_bl HT.out, bel_step hB2 hbel3⟩
    have hkl : q < g.walks.length := by rw [H2.out]; exact hlt
    obtain ⟨b, off, f, rfl, hb, hx⟩ := (t2.bel wlkE (bel_step hB2 hbel3)).out hkl
    obtain ⟨_, j0, j1, j2, z0, z1, z2⟩ := hx q hkl
    obtain ⟨g2, Hd⟩ : ∃ d, Hid (d = g.walks[q]) := ⟨_, (rfl : g.walks[q] = _)⟩
    rw [← Hd.out] at z0 z1 z2
    clear hx t2 j0 j1 j2
    have hlt' : (q : Int) < (n2 : Int) := by omega
    obtain ⟨V, HV⟩ : ∃ V, Hid (V = wr.alloc (.cells #[.int .i64 g2.fr, .int .i64 g2.tt, .int .i64 g2.time] 94)) := ⟨_, (rfl : wr.alloc (.cells #[.int .i64 g2.fr, .int .i64 g2.tt, .int .i64 g2.time] 94) = _)⟩
    have hbV : Bel wr V := by rw [HV.out]; exact bel_alloc (Bel.refl _) _
    have C : Blk V wr.heap.size [.int .i64 g2.fr, .int .i64 g2.tt, .int .i64 g2.time] := by rw [HV.out]; exact Blk.new wr [.int .i64 g2.fr, .int .i64 g2.tt, .int .i64 g2.time] _
    have v0 : V.cell? ⟨wr.heap.size, 0, none⟩ = some (.int .i64 g2.fr) := C.cell 0 (by simp)
    have v1 : V.cell? ⟨wr.heap.size, 1, none⟩ = some (.int .i64 g2.tt) := C.cell 1 (by simp)
    have v2 : V.cell? ⟨wr.heap.size, 2, none⟩ = some (.int .i64 g2.time) := C.cell 2 (by simp)
    have cl := C.lt
    by_cases m0 : g2.fr < 0
    ·skip
     have HF : Hid (false = r) := (by rw [← HA2.out]; refine (listB_no hkl ?_).symm; rw [← Hd.out]; simp [walkB, inN, upToB]; omega : false = r)
     go_upto_region 18 with fail
     rw [← HV.out]
     clear z0 z1 z2 x32
     go_wp2
     go_ret
     exact ⟨ret_bl HF.out, bel_step hB2 (bel_step hbel3 hbV)⟩
    by_cases m1 : n0 ≤ g2.fr
    ·skip
     have HF : Hid (false = r) := (by rw [← HA2.out]; refine (listB_no hkl ?_).symm; rw [← Hd.out]; simp [walkB, inN, upToB]; omega : false = r)
     go_upto_region 18 with fail
     rw [← HV.out]
     clear z0 z1 z2 x32
     go_wp2
     go_ret
     exact ⟨ret_bl HF.out, bel_step hB2 (bel_step hbel3 hbV)⟩
    by_cases m2 : g2.tt < 0
    ·skip
     have HF : Hid (false = r) := (by rw [← HA2.out]; refine (listB_no hkl ?_).symm; rw [← Hd.out]; simp [walkB, inN, upToB]; omega : false = r)
     go_upto_region 18 with fail
     rw [← HV.out]
     clear z0 z1 z2 x32
     go_wp2
     go_ret
     exact ⟨ret_bl HF.out, bel_step hB2 (bel_step hbel3 hbV)⟩
    by_cases m3 : n0 ≤ g2.tt
    ·skip
     have HF : Hid (false = r) := (by rw [← HA2.out]; refine (listB_no hkl ?_).symm; rw [← Hd.out]; simp [walkB, inN, upToB]; omega : false = r)
     go_upto_region 18 with fail
     rw [← HV.out]
     clear z0 z1 z2 x32
     go_wp2
     go_ret
     exact ⟨ret_bl HF.out, bel_step hB2 (bel_step hbel3 hbV)⟩
    by_cases m4 : g2.fr = g2.tt
    ·skip
     have HF : Hid (false = r) := (by rw [← HA2.out]; refine (listB_no hkl ?_).symm; rw [← Hd.out]; simp [walkB, inN, upToB]; omega : false = r)
     obtain ⟨fr, tt, tm⟩ := g2
     dsimp only at m0 m1 m2 m3 m4 v0 v1 v2 HV z0 z1 z2
     subst m4
     go_upto_region 18 with fail
     rw [← HV.out]
     clear z0 z1 z2 x32
     go_wp2
     go_ret
     exact ⟨ret_bl HF.out, bel_step hB2 (bel_step hbel3 hbV)⟩
    by_cases m5 : g2.time < 0
    ·skip
     have HF : Hid (false = r) := (by rw [← HA2.out]; refine (listB_no hkl ?_).symm; rw [← Hd.out]; simp [walkB, inN, upToB]; omega : false = r)
     go_upto_region 18 with fail
     rw [← HV.out]
     clear z0 z1 z2 x32
     go_wp2
     go_ret
     exact ⟨ret_bl HF.out, bel_step hB2 (bel_step hbel3 hbV)⟩
    by_cases m6 : 10000 < g2.time
    ·skip
     have HF : Hid (false = r) := (by rw [← HA2.out]; refine (listB_no hkl ?_).symm; rw [← Hd.out]; simp [walkB, inN, upToB]; omega : false = r)
     go_upto_region 18 with fail
     rw [← HV.out]
     clear z0 z1 z2 x32
     go_wp2
     go_ret
     exact ⟨ret_bl HF.out, bel_step hB2 (bel_step hbel3 hbV)⟩
    have HC : Hid (walkB n0 g.walks[q] = true) := (by rw [← Hd.out]; simp [walkB, inN, upToB]; omega : walkB n0 g.walks[q] = true)
    go_upto_region 18 with fail
    rw [← HV.out]
    clear z0 z1 z2 x32
    go_wp2
    go_roundw
    case rel => exact ⟨q + 1, by omega, by go_num, fun j h hj => by
            (by_cases e : j = q)
            ·subst e; exact HC.out
            ·exact HS.out j h (by omega), bel_step hbel3 hbV⟩
    case measure => simp [intOf]; omega

end Go.Proofs.Ytkmccjjghpnejaa
