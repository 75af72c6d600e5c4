/-
  Whether a timetable can be: the model's contracts.
-/
import Derived.Test.YtkmccjjghpnejaaLinI
import Derived.Test.YtkmccjjghpnejaaLinL
namespace Go.Proofs.Ytkmccjjghpnejaa
open Go.RowKit Go.Maps

set_option maxRecDepth 100000 in
set_option maxHeartbeats 4000000 in
theorem l15TripOk_r (a0 : Option Addr) (n0 c0 : Nat) (a1 : Option Addr) (n1 c1 : Nat) (a2 : Option Addr) (n2 c2 : Nat) (d : TrpD) (a : Option Addr) (nc c : Nat) (bs : List Nat) (r : Bool) (w : World) (hT : CalL w a d.calls bs) (hn : d.calls.length = nc) (hm : nc ≤ 1048576) (hz : d.line.size ≤ maxLen) (h : tripB n0 d = r) :
  Calls Try.prog 50 #[(.agg #[.slice a0 n0 c0, .slice a1 n1 c1, .slice a2 n2 c2]), .agg #[.string d.line, .int .i64 d.days, .slice a nc c]] w fun e w' => e = .returned (.bool r) ∧ Bel w w' := by
 have Hn : Hid (d.calls.length = nc) := hn
 have Hr : Hid (tripB n0 d = r) := h
 clear hn h
 have hB : Bel w ((w.alloc (.cells #[.slice a0 n0 c0, .slice a1 n1 c1, .slice a2 n2 c2] 49)).alloc (.cells #[.string d.line, .int .i64 d.days, .slice a nc c] 92)) := bel_alloc (bel_alloc (Bel.refl _) _) _
 have X0 : Blk ((w.alloc (.cells #[.slice a0 n0 c0, .slice a1 n1 c1, .slice a2 n2 c2] 49)).alloc (.cells #[.string d.line, .int .i64 d.days, .slice a nc c] 92)) w.heap.size [.slice a0 n0 c0, .slice a1 n1 c1, .slice a2 n2 c2] := (Blk.new w [.slice a0 n0 c0, .slice a1 n1 c1, .slice a2 n2 c2] 49).bel (bel_alloc (Bel.refl _) _)
 have Y0 : Blk ((w.alloc (.cells #[.slice a0 n0 c0, .slice a1 n1 c1, .slice a2 n2 c2] 49)).alloc (.cells #[.string d.line, .int .i64 d.days, .slice a nc c] 92)) (w.heap.size + 1) [.string d.line, .int .i64 d.days, .slice a nc c] := Blk.new1 w _ [.string d.line, .int .i64 d.days, .slice a nc c] 92
 rcases Bool.eq_false_or_eq_true (valB d.line) with k0 | k0
 ·skip
  by_cases k1 : 1 ≤ d.days
  ·have ek1 := decide_eq_true k1
   by_cases k2 : d.days ≤ 127
   ·have ek2 := decide_eq_true k2
    by_cases k3 : 2 ≤ nc
    ·have ek3 := decide_eq_true k3
     by_cases k4 : nc ≤ 40
     ·have ek4 := decide_eq_true k4
      have HA : Hid (bP (calsP n0 d.calls) = r) := (by rw [← Hr.out]; unfold tripB; rw [k0, ek1, ek2, Hn.out, ek3, ek4] <;> simp : bP (calsP n0 d.calls) = r)
      have q0 := fun w => l2ValueOk_r d.line _ w hz k0
      have i3 : (2 : Int) ≤ nc := by omega
      have i4 : (nc : Int) ≤ 40 := by omega
      clear ek1 ek2 ek3 ek4
      go_enter Try.func50, Try.ntmps50
      go_wp2_with (go_at_call 49; with_reducible refine (q0 _).mono ?_; rintro e w' ⟨rfl, rfl⟩)
      go_loopw [5, 6, 7] (fun la i _ wr => ∃ k : Nat, k ≤ nc ∧ la = .int .i64 (prevD d.calls k) ∧ i = .int .i64 k ∧ (∀ j (h : j < d.calls.length), j < k → calB n0 (prevS d.calls j) (prevD d.calls j) d.calls[j] = true) ∧ Blk wr w.heap.size [.slice a0 n0 c0, .slice a1 n1 c1, .slice a2 n2 c2] ∧ Blk wr (w.heap.size + 1) [.string d.line, .int .i64 d.days, .slice a nc c] ∧ Bel w wr) (fun _ i _ _ => nc - (intOf i).toNat)
      case atStart => exact ⟨0, Nat.zero_le _, rfl, rfl, fun j _ hj => absurd hj (Nat.not_lt_zero _), X0, Y0, hB⟩
      case round =>
       obtain ⟨k, hk, rfl, rfl, hall, X, Y, hbel⟩ := hrel
       have H : Hid (∀ j (h : j < d.calls.length), j < k → calB n0 (prevS d.calls j) (prevD d.calls j) d.calls[j] = true) := hall
       clear hall
       have HSt : Hid (∀ h : 0 < k, ∀ h' : k - 1 < d.calls.length, prevS d.calls k = d.calls[k - 1].stop) := (fun h h' => by
        obtain ⟨j, rfl⟩ : ∃ j, k = j + 1 := ⟨k - 1, by omega⟩
        exact prevS_step h' : ∀ h : 0 < k, ∀ h' : k - 1 < d.calls.length, prevS d.calls k = d.calls[k - 1].stop)
       obtain ⟨s, Hs⟩ : ∃ s, Hid (prevS d.calls k = s) := ⟨_, (rfl : prevS d.calls k = _)⟩
       obtain ⟨t, Ht⟩ : ∃ t, Hid (prevD d.calls k = t) := ⟨_, (rfl : prevD d.calls k = _)⟩
       rw [Ht.out]
       have xl := X.lt
       have yl := Y.lt
       have y2 : wr.cell? ⟨w.heap.size + 1, 2, none⟩ = some (.slice a nc c) := Y.cell 2 (by simp)
       by_cases hlt : k < nc
       rotate_left
       ·have HT : Hid (true = r) := (by rw [← HA.out]; exact (bP_true fun i h => H.out i h (by rw [Hn.out] at h; omega)).symm : true = r)
        go_wp2
        go_ret
        exact ⟨ret_bl HT.out, hbel⟩
       have hkl : k < d.calls.length := by rw [Hn.out]; exact hlt
       obtain ⟨b, off, fb, rfl, hb, hx⟩ := (hT.bel calE hbel).out hkl
       obtain ⟨_, z0, z1, z2, c0', c1', c2'⟩ := hx k hkl
       have HP : Hid (∀ h : 0 < k, wr.cell? ⟨b, off + (k - 1) * 3, none⟩ = some (.int .i64 s)) := (fun h => by
        have h' : k - 1 < d.calls.length := by omega
        obtain ⟨_, _, _, _, c, _⟩ := hx (k - 1) h'
        rw [← HSt.out h h', Hs.out] at c
        exact c : ∀ h : 0 < k, wr.cell? ⟨b, off + (k - 1) * 3, none⟩ = some (.int .i64 s))
       obtain ⟨g, Hg⟩ : ∃ g, Hid (g = d.calls[k]) := ⟨_, (rfl : d.calls[k] = _)⟩
       rw [← Hg.out] at c0' c1' c2'
       have H00 : Hid (k = 0 → s = -1) := (fun h => by rw [← Hs.out, h]; rfl : k = 0 → s = -1)
       clear hx hT z0 z1 z2 X0 Y0 hB HSt
       have hlt' : (k : Int) < (nc : Int) := by omega
       obtain ⟨V, HV⟩ : ∃ V, Hid (V = wr.alloc (.cells #[.int .i64 g.stop, .int .i64 g.arr, .int .i64 g.dep] 108)) := ⟨_, (rfl : wr.alloc (.cells #[.int .i64 g.stop, .int .i64 g.arr, .int .i64 g.dep] 108) = _)⟩
       have hbV : Bel wr V := by rw [HV.out]; exact bel_alloc (Bel.refl _) _
       have C : Blk V wr.heap.size [.int .i64 g.stop, .int .i64 g.arr, .int .i64 g.dep] := by rw [HV.out]; exact Blk.new wr [.int .i64 g.stop, .int .i64 g.arr, .int .i64 g.dep] _
       have XV := X.bel hbV
       have YV := Y.bel hbV
       have hR : ∀ w', Bel V w' → w'.cell? ⟨wr.heap.size, 0, none⟩ = some (.int .i64 g.stop) ∧ w'.cell? ⟨wr.heap.size, 1, none⟩ = some (.int .i64 g.arr) ∧ w'.cell? ⟨wr.heap.size, 2, none⟩ = some (.int .i64 g.dep) ∧ w'.cell? ⟨w.heap.size, 0, none⟩ = some (.slice a0 n0 c0) ∧ w'.cell? ⟨w.heap.size + 1, 2, none⟩ = some (.slice (some ⟨b, off, none⟩) nc c) :=
        fun w' h => ⟨(C.bel h).cell 0 (by simp), (C.bel h).cell 1 (by simp), (C.bel h).cell 2 (by simp), (XV.bel h).cell 0 (by simp), (YV.bel h).cell 2 (by simp)⟩
       have g0 : Bel V V := Bel.refl _
       have hbl := bel_lt hbV hb
       have cl := C.lt
       have xvl := XV.lt
       have yvl := YV.lt
       have XK : ∀ w', Bel wr w' → Blk w' w.heap.size [.slice a0 n0 c0, .slice a1 n1 c1, .slice a2 n2 c2] := fun w' h => X.bel h
       have YK : ∀ w', Bel wr w' → Blk w' (w.heap.size + 1) [.string d.line, .int .i64 d.days, .slice (some ⟨b, off, none⟩) nc c] := fun w' h => Y.bel h
       by_cases m0 : g.stop < 0
       ·skip
        have HF : Hid (false = r) := (by rw [← HA.out]; refine (bP_false fun h => ?_).symm; have := h k hkl; rw [← Hg.out, Hs.out, Ht.out] at this; simp [calB, inN] at this; omega : false = r)
        clear HP H00
        go_upto_region 8 with fail
        rw [← HV.out]
        clear c0' c1' c2' y2 X Y C XV YV
        go_quiet (fail)
        have hH : Bel V (V.drewN nq) := bel_drewN (Bel.refl _) _
        go_wp2
        go_ret
        exact ⟨ret_bl HF.out, bel_step hbel (bel_step hbV hH)⟩
       by_cases m1 : n0 ≤ g.stop
       ·skip
        have HF : Hid (false = r) := (by rw [← HA.out]; refine (bP_false fun h => ?_).symm; have := h k hkl; rw [← Hg.out, Hs.out, Ht.out] at this; simp [calB, inN] at this; omega : false = r)
        clear HP H00
        go_upto_region 8 with fail
        rw [← HV.out]
        clear c0' c1' c2' y2 X Y C XV YV
        go_quiet (fail)
        have hH : Bel V (V.drewN nq) := bel_drewN (Bel.refl _) _
        go_wp2
        go_ret
        exact ⟨ret_bl HF.out, bel_step hbel (bel_step hbV hH)⟩
       by_cases m2 : g.arr < t
       ·skip
        have HF : Hid (false = r) := (by rw [← HA.out]; refine (bP_false fun h => ?_).symm; have := h k hkl; rw [← Hg.out, Hs.out, Ht.out] at this; simp [calB, inN] at this; omega : false = r)
        clear HP H00
        go_upto_region 8 with fail
        rw [← HV.out]
        clear c0' c1' c2' y2 X Y C XV YV
        go_quiet (fail)
        have hH : Bel V (V.drewN nq) := bel_drewN (Bel.refl _) _
        go_wp2
        go_ret
        exact ⟨ret_bl HF.out, bel_step hbel (bel_step hbV hH)⟩
       by_cases m3 : g.dep < g.arr
       ·skip
        have HF : Hid (false = r) := (by rw [← HA.out]; refine (bP_false fun h => ?_).symm; have := h k hkl; rw [← Hg.out, Hs.out, Ht.out] at this; simp [calB, inN] at this; omega : false = r)
        clear HP H00
        go_upto_region 8 with fail
        rw [← HV.out]
        clear c0' c1' c2' y2 X Y C XV YV
        go_quiet (fail)
        have hH : Bel V (V.drewN nq) := bel_drewN (Bel.refl _) _
        go_wp2
        go_ret
        exact ⟨ret_bl HF.out, bel_step hbel (bel_step hbV hH)⟩
       by_cases m4 : 1000000 < g.dep
       ·skip
        have HF : Hid (false = r) := (by rw [← HA.out]; refine (bP_false fun h => ?_).symm; have := h k hkl; rw [← Hg.out, Hs.out, Ht.out] at this; simp [calB, inN] at this; omega : false = r)
        clear HP H00
        go_upto_region 8 with fail
        rw [← HV.out]
        clear c0' c1' c2' y2 X Y C XV YV
        go_quiet (fail)
        have hH : Bel V (V.drewN nq) := bel_drewN (Bel.refl _) _
        go_wp2
        go_ret
        exact ⟨ret_bl HF.out, bel_step hbel (bel_step hbV hH)⟩
       by_cases m5 : k = 0
       ·skip
        have HC : Hid (calB n0 (prevS d.calls k) (prevD d.calls k) d.calls[k] = true) := (by rw [← Hg.out, Hs.out, Ht.out]; have := H00.out m5; simp [calB, inN]; omega : calB n0 (prevS d.calls k) (prevD d.calls k) d.calls[k] = true)
        subst m5
        simp only [Nat.zero_mul, Nat.add_zero] at c0' c1' c2'
        clear HP H00
        go_upto_region 8 with fail
        rw [← HV.out]
        clear c0' c1' c2' y2 X Y C XV YV
        go_quiet (fail)
        have hH : Bel V (V.drewN nq) := bel_drewN (Bel.refl _) _
        have hh := hR _ hH
        obtain ⟨h0, h1, h2, _, _⟩ := hh
        go_wp2
        go_roundw
        case rel =>
         refine ⟨0 + 1, by omega, by rw [prevD_step hkl, ← Hg.out], by go_num, fun j' h hj => by
                (by_cases e : j' = 0)
                ·subst e; exact HC.out
                ·exact H.out j' h (by omega), XK _ (bel_step hbV hH), YK _ (bel_step hbV hH), bel_step hbel (bel_step hbV hH)⟩
        case measure => simp [intOf]; omega
       by_cases m6 : g.stop = s
       ·skip
        have HF : Hid (false = r) := (by rw [← HA.out]; refine (bP_false fun h => ?_).symm; have := h k hkl; rw [← Hg.out, Hs.out, Ht.out] at this; simp [calB, inN] at this; omega : false = r)
        obtain ⟨j, rfl⟩ : ∃ j, k = j + 1 := ⟨k - 1, by omega⟩
        have hP : ∀ w', Bel V w' → w'.cell? ⟨b, off + j * 3, none⟩ = some (.int .i64 s) := fun w' h => bel_cellM (bel_step hbV h) hb (HP.out (by omega))
        have j1 : (((j + 1 : Nat) : Int) - 1) = (j : Int) := by omega
        have j2 : (0 : Int) < ((j + 1 : Nat) : Int) := by omega
        have j3 : (j : Int) < (nc : Int) := by omega
        subst m6
        clear HP H00
        go_upto_region 8 with fail
        rw [← HV.out]
        clear c0' c1' c2' y2 X Y C XV YV
        go_quiet (fail)
        have hH : Bel V (V.drewN nq) := bel_drewN (Bel.refl _) _
        go_wp2
        go_ret
        exact ⟨ret_bl HF.out, bel_step hbel (bel_step hbV hH)⟩
       have HC : Hid (calB n0 (prevS d.calls k) (prevD d.calls k) d.calls[k] = true) := (by rw [← Hg.out, Hs.out, Ht.out]; simp [calB, inN]; omega : calB n0 (prevS d.calls k) (prevD d.calls k) d.calls[k] = true)
       obtain ⟨j, rfl⟩ : ∃ j, k = j + 1 := ⟨k - 1, by omega⟩
       have hP : ∀ w', Bel V w' → w'.cell? ⟨b, off + j * 3, none⟩ = some (.int .i64 s) := fun w' h => bel_cellM (bel_step hbV h) hb (HP.out (by omega))
       have j1 : (((j + 1 : Nat) : Int) - 1) = (j : Int) := by omega
       have j2 : (0 : Int) < ((j + 1 : Nat) : Int) := by omega
       have j3 : (j : Int) < (nc : Int) := by omega
       clear HP H00
       go_upto_region 8 with fail
       rw [← HV.out]
       clear c0' c1' c2' y2 X Y C XV YV
       go_quiet (fail)
       have hH : Bel V (V.drewN nq) := bel_drewN (Bel.refl _) _
       have hh := hR _ hH
       obtain ⟨h0, h1, h2, _, _⟩ := hh
       go_wp2
       go_roundw
       case rel =>
        refine ⟨j + 1 + 1, by omega, by rw [prevD_step hkl, ← Hg.out], by go_num, fun j' h hj => by
               (by_cases e : j' = j + 1)
               ·subst e; exact HC.out
               ·exact H.out j' h (by omega), XK _ (bel_step hbV hH), YK _ (bel_step hbV hH), bel_step hbel (bel_step hbV hH)⟩
       case measure => simp [intOf]; omega
     ·have ek4 := decide_eq_false k4
      have HR : Hid (false = r) := (by rw [← Hr.out]; unfold tripB; rw [k0, ek1, ek2, Hn.out, ek3, ek4] <;> simp : false = r)
      have q0 := fun w => l2ValueOk_r d.line _ w hz k0
      have i3 : (2 : Int) ≤ nc := by omega
      have i4 : ¬ (nc : Int) ≤ 40 := by omega
      clear ek1 ek2 ek3 ek4
      go_enter Try.func50, Try.ntmps50
      go_wp2_with (go_at_call 49; with_reducible refine (q0 _).mono ?_; rintro e w' ⟨rfl, rfl⟩)
      go_ret
      first | exact ⟨ret_bl HR.out, hB⟩ | exact ⟨ret_bl (by rw [← HR.out]; simp; omega), hB⟩
    ·have ek3 := decide_eq_false k3
     have HR : Hid (false = r) := (by rw [← Hr.out]; unfold tripB; rw [k0, ek1, ek2, Hn.out, ek3] <;> simp : false = r)
     have q0 := fun w => l2ValueOk_r d.line _ w hz k0
     have i3 : ¬ (2 : Int) ≤ nc := by omega
     clear ek1 ek2 ek3
     go_enter Try.func50, Try.ntmps50
     go_wp2_with (go_at_call 49; with_reducible refine (q0 _).mono ?_; rintro e w' ⟨rfl, rfl⟩)
     go_ret
     first | exact ⟨ret_bl HR.out, hB⟩ | exact ⟨ret_bl (by rw [← HR.out]; simp; omega), hB⟩
   ·have ek2 := decide_eq_false k2
    have HR : Hid (false = r) := (by rw [← Hr.out]; unfold tripB; rw [k0, ek1, ek2] <;> simp : false = r)
    have q0 := fun w => l2ValueOk_r d.line _ w hz k0
    clear ek1 ek2
    go_enter Try.func50, Try.ntmps50
    go_wp2_with (go_at_call 49; with_reducible refine (q0 _).mono ?_; rintro e w' ⟨rfl, rfl⟩)
    go_ret
    first | exact ⟨ret_bl HR.out, hB⟩ | exact ⟨ret_bl (by rw [← HR.out]; simp; omega), hB⟩
  ·have ek1 := decide_eq_false k1
   have HR : Hid (false = r) := (by rw [← Hr.out]; unfold tripB; rw [k0, ek1] <;> simp : false = r)
   have q0 := fun w => l2ValueOk_r d.line _ w hz k0
   clear ek1
   go_enter Try.func50, Try.ntmps50
   go_wp2_with (go_at_call 49; with_reducible refine (q0 _).mono ?_; rintro e w' ⟨rfl, rfl⟩)
   go_ret
   first | exact ⟨ret_bl HR.out, hB⟩ | exact ⟨ret_bl (by rw [← HR.out]; simp; omega), hB⟩
 ·skip
  have HR : Hid (false = r) := (by rw [← Hr.out]; unfold tripB; rw [k0] <;> simp : false = r)
  have q0 := fun w => l2ValueOk_r d.line _ w hz k0
  go_enter Try.func50, Try.ntmps50
  go_wp2_with (go_at_call 49; with_reducible refine (q0 _).mono ?_; rintro e w' ⟨rfl, rfl⟩)
  go_ret
  first | exact ⟨ret_bl HR.out, hB⟩ | exact ⟨ret_bl (by rw [← HR.out]; simp; omega), hB⟩

end Go.Proofs.Ytkmccjjghpnejaa
