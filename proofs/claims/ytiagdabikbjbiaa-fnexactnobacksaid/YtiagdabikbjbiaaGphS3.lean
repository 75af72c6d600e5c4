/-
  Whether a graph can be, in the model: its bans: contract.
-/
import Derived.Test.YtiagdabikbjbiaaXA
import Derived.Test.YtiagdabikbjbiaaGphP
import Derived.Test.YtiagdabikbjbiaaGphS0
namespace Go.Proofs.Ytiagdabikbjbiaa
open Go.RowKit Go.Maps

set_option maxRecDepth 100000 in
set_option maxHeartbeats 8000000 in
theorem specGraphOk_3 (v : Value) (g : GraphD) (bs : List Nat) (w : World) (hV : GphV w v g bs) (hQ : GphQ g) (hbig : g.places.length ≤ 5000 ∧ g.roads.length ≤ 8000 ∧ g.bans.length ≤ 2000) (hsp : spotsP g.places) (hrp : roadsP g.places.length g.roads) :
    Calls Try.prog 22 #[v] w fun e w' => e = .returned (.bool (bP (graphP g))) ∧ Bel w w' := by
  obtain ⟨a0, c0, a1, c1, a2, c2, b0, b1, b2, _, rfl, t0, t1, t2⟩ := hV
  obtain ⟨m0, m1, m2⟩ := hQ
  obtain ⟨n0, H0⟩ : ∃ n, Hid (g.places.length = n) := ⟨_, (rfl : g.places.length = _)⟩
  obtain ⟨n1, H1⟩ : ∃ n, Hid (g.roads.length = n) := ⟨_, (rfl : g.roads.length = _)⟩
  obtain ⟨n2, H2⟩ : ∃ n, Hid (g.bans.length = n) := ⟨_, (rfl : g.bans.length = _)⟩
  rw [H0.out] at m0
  rw [H1.out] at m1
  rw [H2.out] at m2
  rw [H0.out, H1.out, H2.out] at hbig
  rw [H0.out, H1.out, H2.out]
  obtain ⟨W, HW⟩ : ∃ W, Hid (W = w.alloc (.cells #[.slice a0 n0 c0, .slice a1 n1 c1, .slice a2 n2 c2] 34)) := ⟨_, (rfl : w.alloc (.cells #[.slice a0 n0 c0, .slice a1 n1 c1, .slice a2 n2 c2] 34) = _)⟩
  have hB0 : Bel w W := by rw [HW.out]; exact bel_alloc (Bel.refl _) _
  have X0 : Blk W w.heap.size [.slice a0 n0 c0, .slice a1 n1 c1, .slice a2 n2 c2] := by rw [HW.out]; exact Blk.new w [.slice a0 n0 c0, .slice a1 n1 c1, .slice a2 n2 c2] _
  have hG : ∀ w', Bel W w' → w'.cell? ⟨w.heap.size, 0, none⟩ = some (.slice a0 n0 c0) ∧ w'.cell? ⟨w.heap.size, 1, none⟩ = some (.slice a1 n1 c1) ∧ w'.cell? ⟨w.heap.size, 2, none⟩ = some (.slice a2 n2 c2) ∧ w.heap.size < w'.heap.size := fun w' h =>
    ⟨(X0.bel h).cell 0 (by simp), (X0.bel h).cell 1 (by simp), (X0.bel h).cell 2 (by simp), (X0.bel h).lt⟩
  have T0 := t0.bel spotE hB0
  have T1 := t1.bel roadE hB0
  have T2 := t2.bel banE hB0
  clear t0 t1 t2 X0
  have HSP : Hid (spotsP g.places) := hsp
  have HRP : Hid (roadsP g.places.length g.roads) := hrp
  clear hsp hrp
  obtain ⟨y0, y1, y2, yl⟩ := hG W (Bel.refl _)
  obtain ⟨k0, k1, k2⟩ := hbig
  have K0 : (n0 : Int) ≤ 5000 := by omega
  have K1 : (n1 : Int) ≤ 8000 := by omega
  have K2 : (n2 : Int) ≤ 2000 := by omega
  go_enter Try.func22, Try.ntmps22
  go_wp2
  rw [← HW.out]
  go_wp2
  clear y0 y1 y2 yl
  go_loopw [3, 4] (fun i _ wr => ∃ k : Nat, k ≤ n0 ∧ i = .int .i64 k ∧ (∀ j (h : j < g.places.length), j < k → SpotAt g.places j h) ∧ Bel W wr) (fun i _ _ => n0 - (intOf i).toNat)
  case atStart => exact ⟨0, Nat.zero_le _, rfl, fun j _ hj => absurd hj (Nat.not_lt_zero _), Bel.refl _⟩
  case round =>
    obtain ⟨k, hk, rfl, hall, hbel⟩ := hrel
    have H : Hid (∀ j (h : j < g.places.length), j < k → SpotAt g.places j h) := hall
    clear hall
    obtain ⟨y0, y1, y2, yl⟩ := hG wr hbel
    by_cases hlt : k < n0
    · have hkl : k < g.places.length := by rw [H0.out]; exact hlt
      obtain ⟨b, off, f, rfl, hb, hx⟩ := (T0.bel spotE hbel).out hkl
      obtain ⟨_, i0, i1, i2, z0, z1, z2⟩ := hx k hkl
      obtain ⟨d, Hd⟩ : ∃ d, Hid (d = g.places[k]) := ⟨_, (rfl : g.places[k] = _)⟩
      rw [← Hd.out] at z0 z1 z2
      obtain ⟨V, HV⟩ : ∃ V, Hid (V = wr.alloc (.cells #[.int .i64 d.id, .int .i64 d.x, .int .i64 d.y] 83)) := ⟨_, (rfl : wr.alloc (.cells #[.int .i64 d.id, .int .i64 d.x, .int .i64 d.y] 83) = _)⟩
      have hbV : Bel wr V := by rw [HV.out]; exact bel_alloc (Bel.refl _) _
      have XV : Blk V wr.heap.size [.int .i64 d.id, .int .i64 d.x, .int .i64 d.y] := by rw [HV.out]; exact Blk.new wr [.int .i64 d.id, .int .i64 d.x, .int .i64 d.y] _
      have hWV := bel_step hbel hbV
      have hBV := bel_step hB0 hWV
      have hS : ∀ w', Bel V w' → w'.cell? ⟨wr.heap.size, 0, none⟩ = some (.int .i64 d.id) ∧ w'.cell? ⟨wr.heap.size, 1, none⟩ = some (.int .i64 d.x) ∧ w'.cell? ⟨wr.heap.size, 2, none⟩ = some (.int .i64 d.y) ∧ w'.cell? ⟨w.heap.size, 0, none⟩ = some (.slice (some ⟨b, off, none⟩) n0 c0) := fun w' h =>
        ⟨(XV.bel h).cell 0 (by simp), (XV.bel h).cell 1 (by simp), (XV.bel h).cell 2 (by simp), (hG w' (bel_step hWV h)).1⟩
      have g0 : Bel V V := Bel.refl _
      have hlt' : (k : Int) < (n0 : Int) := by omega
      clear XV i0 i1 i2 T0
      go_upto_region 7 with fail
      rw [← HV.out]
      clear y0 y1 y2 yl
      have hat := HSP.out k hkl
      have hi : idk d.id = true := by rw [Hd.out]; exact hat.1
      have hp : pok d.x d.y = true := by rw [Hd.out]; exact hat.2.1
      have Hat : Hid (0 < k → (g.places[k - 1]'(by omega)).id < g.places[k].id) := hat.2.2
      clear hat
      rcases k with _ | m
      · have HA : Hid (SpotAt g.places 0 hkl) := ⟨by rw [← Hd.out]; exact hi, by rw [← Hd.out]; exact hp, fun h => absurd h (Nat.lt_irrefl _)⟩
        clear hx z0 z1 z2
        as_aux_lemma =>
        refine wp_region_noPanic ?_
        refine wp_region_held_drew (S := fun w' => Bel V w') (by kernel_rfl) (Bel.drew g0) (fun hHeld => ?_)
        refine tk 0 hHeld ?_; refine tk 1 hHeld ?_
        refine rd1 2 (fun K hK => ?_)
        go_simp
        refine (l2IdG_r _ true _ hi).mono ?_
        rintro e w1 ⟨rfl, rfl⟩
        go_wp2_with fail
        refine hK.out _ _ ((by first | exact bel_step hHeld hbk | exact hHeld)) (fun hHeld' => ?_)
        clear hK K hHeld
        have hHeld := hHeld'
        clear hHeld'
        try simp only [Act.put, List.setIfInBounds_toArray, List.set_cons_zero, List.set_cons_succ]
        refine tk 3 hHeld ?_; refine tk 4 hHeld ?_; refine tk 5 hHeld ?_; refine tk 6 hHeld ?_
        refine rd1 7 (fun K hK => ?_)
        go_simp
        refine (specPointG_r _ _ true _ hp).mono ?_
        rintro e w2 ⟨rfl, hbk⟩
        go_wp2_with fail
        refine hK.out _ _ ((by first | exact bel_step hHeld hbk | exact hHeld)) (fun hHeld' => ?_)
        clear hK K hHeld
        have hHeld := hHeld'
        clear hHeld'
        try simp only [Act.put, List.setIfInBounds_toArray, List.set_cons_zero, List.set_cons_succ]
        refine tk 8 hHeld ?_; refine tk 9 hHeld ?_; refine tk 10 hHeld ?_; refine tk 11 hHeld ?_; refine tk 12 hHeld ?_
        refine tk 13 hHeld ?_; refine sk 14 hHeld ?_; refine sk 15 hHeld ?_; refine sk 16 hHeld ?_; refine sk 17 hHeld ?_
        refine sk 18 hHeld ?_; refine sk 19 hHeld ?_; refine sk 20 hHeld ?_; refine sk 21 hHeld ?_; refine sk 22 hHeld ?_
        refine sk 23 hHeld ?_; refine tk 24 hHeld ?_; refine tk 25 hHeld ?_
        refine wpAnyH_done (by kernel_rfl) ?_ _
        refine NoPanic.normal ?_
        go_wp2
        go_roundw
        case rel => exact ⟨1, by omega, by go_num, fun j h hj => by
                        obtain rfl : j = 0 := by omega
                        exact HA.out, bel_step hWV hHeld⟩
        case measure => simp [intOf]; omega
      · obtain ⟨P, HP⟩ : ∃ d, Hid (d = g.places[m]) := ⟨_, (rfl : g.places[m] = _)⟩
        obtain ⟨_, _, _, _, p0, _, _⟩ := hx m (by omega)
        rw [← HP.out] at p0
        have hS3 : ∀ w', Bel V w' → w'.cell? ⟨b, off + m * 3, none⟩ = some (.int .i64 P.id) := fun w' h => bel_cellM (bel_step hbV h) hb p0
        have hmm : IntKind.i64.wrap (m : Int) = m := by rw [IntKind.wrap_i64]; omega
        have hltm : (m : Int) < (n0 : Int) := by omega
        clear hx z0 z1 z2 p0
        have hr0 : P.id < d.id := by have := Hat.out (Nat.succ_pos _); simp only [Nat.add_sub_cancel] at this; rw [Hd.out, HP.out]; exact this
        have HA : Hid (SpotAt g.places (m + 1) hkl) := ⟨by rw [← Hd.out]; exact hi, by rw [← Hd.out]; exact hp, fun _ => by simp only [Nat.add_sub_cancel]; rw [← Hd.out, ← HP.out]; exact hr0⟩
        have hge : decide (d.id ≤ P.id) = false := by simp; omega
        as_aux_lemma =>
        refine wp_region_noPanic ?_
        refine wp_region_held_drew (S := fun w' => Bel V w') (by kernel_rfl) (Bel.drew g0) (fun hHeld => ?_)
        refine tk 0 hHeld ?_; refine tk 1 hHeld ?_
        refine rd1 2 (fun K hK => ?_)
        go_simp
        refine (l2IdG_r _ true _ hi).mono ?_
        rintro e w1 ⟨rfl, rfl⟩
        go_wp2_with fail
        refine hK.out _ _ ((by first | exact bel_step hHeld hbk | exact hHeld)) (fun hHeld' => ?_)
        clear hK K hHeld
        have hHeld := hHeld'
        clear hHeld'
        try simp only [Act.put, List.setIfInBounds_toArray, List.set_cons_zero, List.set_cons_succ]
        refine tk 3 hHeld ?_; refine tk 4 hHeld ?_; refine tk 5 hHeld ?_; refine tk 6 hHeld ?_
        refine rd1 7 (fun K hK => ?_)
        go_simp
        refine (specPointG_r _ _ true _ hp).mono ?_
        rintro e w2 ⟨rfl, hbk⟩
        go_wp2_with fail
        refine hK.out _ _ ((by first | exact bel_step hHeld hbk | exact hHeld)) (fun hHeld' => ?_)
        clear hK K hHeld
        have hHeld := hHeld'
        clear hHeld'
        try simp only [Act.put, List.setIfInBounds_toArray, List.set_cons_zero, List.set_cons_succ]
        refine tk 8 hHeld ?_; refine tk 9 hHeld ?_; refine tk 10 hHeld ?_; refine tk 11 hHeld ?_; refine tk 12 hHeld ?_
        refine tk 13 hHeld ?_; refine tk 14 hHeld ?_; refine tk 15 hHeld ?_; refine tk 16 hHeld ?_; refine tk 17 hHeld ?_
        refine tk 18 hHeld ?_; refine tk 19 hHeld ?_; refine tk 20 hHeld ?_; refine tk 21 hHeld ?_; refine tk 22 hHeld ?_
        refine tk 23 hHeld ?_; refine tk 24 hHeld ?_; refine tk 25 hHeld ?_
        refine wpAnyH_done (by kernel_rfl) ?_ _
        refine NoPanic.normal ?_
        go_wp2
        go_roundw
        case rel => exact ⟨m + 2, by omega, by go_num, fun j h hj => by
                        (by_cases e : j = m + 1)
                        · subst e; exact HA.out
                        · exact H.out j h (by omega), bel_step hWV hHeld⟩
        case measure => simp [intOf]; omega
    · have he : k = n0 := by omega
      subst he
      obtain ⟨wA, hA⟩ : ∃ V, V = wr := ⟨_, rfl⟩
      subst hA
      clear T0 H
      go_wp2
      clear y0 y1 y2 yl
      go_loopw [6, 7] (fun i _ wr => ∃ j : Nat, j ≤ n1 ∧ i = .int .i64 j ∧ (∀ i (h : i < g.roads.length), i < j → roadB k g.roads[i] = true) ∧ Bel W wr) (fun i _ _ => n1 - (intOf i).toNat)
      case atStart => exact ⟨0, Nat.zero_le _, rfl, fun j _ hj => absurd hj (Nat.not_lt_zero _), hbel⟩
      case round =>
        obtain ⟨j, hj, rfl, hall, hbel2⟩ := hrel
        have H : Hid (∀ i (h : i < g.roads.length), i < j → roadB k g.roads[i] = true) := hall
        clear hall hbel
        obtain ⟨y0, y1, y2, yl⟩ := hG wr hbel2
        by_cases hlt : j < n1
        · have hkl : j < g.roads.length := by rw [H1.out]; exact hlt
          obtain ⟨b, off, f, rfl, hb, hx⟩ := (T1.bel roadE hbel2).out hkl
          obtain ⟨_, i0, i1, i2, i3, i4, i5, z0, z1, z2, z3, z4, z5⟩ := hx j hkl
          obtain ⟨d, Hd⟩ : ∃ d, Hid (d = g.roads[j]) := ⟨_, (rfl : g.roads[j] = _)⟩
          rw [← Hd.out] at z0 z1 z2 z3 z4 z5
          have hB1 := bel_alloc hbel2 (.cells #[.int .i64 d.fr, .int .i64 d.to, .int .i64 d.way, .int .i64 d.time, .int .i64 d.len, .string d.name] 72)
          have hlt' : (j : Int) < (n1 : Int) := by omega
          clear hx i0 i1 i2 i3 i4 i5 T1 hb
          have hroad := HRP.out j hkl
          rw [H0.out, ← Hd.out] at hroad
          have hro := roadB_out hroad
          obtain ⟨⟨q0, q1⟩, ⟨q2, q3⟩, hw, ⟨q5, q6⟩, q7, q8⟩ := hro
          have q4 : idk d.way = true := idk_iff.2 hw
          clear hw hroad
          have hrd : roadB k d = true := by simp only [roadB, inN, Bool.and_eq_true, decide_eq_true_eq]; exact ⟨⟨q0, q1⟩, ⟨q2, q3⟩, q4, q5, q6, q7, q8⟩
          have HA : Hid (roadB k g.roads[j] = true) := by rw [← Hd.out]; exact hrd
          clear hrd
          go_wp2_with (first | (go_at_call 48; refine (l2IdG_r _ _ _ q4).mono ?_; rintro e w' ⟨rfl, rfl⟩))
          go_roundw
          case rel => exact ⟨j + 1, by omega, by go_num, fun i h hi => by
                          (by_cases e : i = j)
                          · subst e; exact HA.out
                          · exact H.out i h (by omega), hB1⟩
          case measure => simp [intOf]; omega
        · have he : j = n1 := by omega
          subst he
          obtain ⟨wC, hC⟩ : ∃ V, V = wr := ⟨_, rfl⟩
          subst hC
          clear H
          go_wp2
          clear y0 y1 y2 yl
          go_loopw [9, 10] (fun i _ wr => ∃ t : Nat, t ≤ n2 ∧ i = .int .i64 t ∧ (∀ i (h : i < g.bans.length), i < t → (meetsP g.roads g.bans[i] ∧ (0 < i → banLt (g.bans[i - 1]'(by omega)) g.bans[i]))) ∧ Bel W wr) (fun i _ _ => n2 - (intOf i).toNat)
          case atStart => exact ⟨0, Nat.zero_le _, rfl, fun j _ hj => absurd hj (Nat.not_lt_zero _), hbel2⟩
          case round =>
            obtain ⟨t, ht0, rfl, hall, hbel3⟩ := hrel
            have H : Hid (∀ i (h : i < g.bans.length), i < t → (meetsP g.roads g.bans[i] ∧ (0 < i → banLt (g.bans[i - 1]'(by omega)) g.bans[i]))) := hall
            clear hall hbel2
            obtain ⟨y0, y1, y2, yl⟩ := hG wr hbel3
            by_cases hlt : t < n2
            · have hkl : t < g.bans.length := by rw [H2.out]; exact hlt
              obtain ⟨b, off, f, rfl, hb, hx⟩ := (T2.bel banE hbel3).out hkl
              obtain ⟨_, i0, i1, z0, z1⟩ := hx t hkl
              obtain ⟨d, Hd⟩ : ∃ d, Hid (d = g.bans[t]) := ⟨_, (rfl : g.bans[t] = _)⟩
              rw [← Hd.out] at z0 z1
              obtain ⟨V, HV⟩ : ∃ V, Hid (V = wr.alloc (.cells #[.int .i64 d.fr, .int .i64 d.to] 75)) := ⟨_, (rfl : wr.alloc (.cells #[.int .i64 d.fr, .int .i64 d.to] 75) = _)⟩
              have hbV : Bel wr V := by rw [HV.out]; exact bel_alloc (Bel.refl _) _
              have XV : Blk V wr.heap.size [.int .i64 d.fr, .int .i64 d.to] := by rw [HV.out]; exact Blk.new wr [.int .i64 d.fr, .int .i64 d.to] _
              have hWV := bel_step hbel3 hbV
              have hBV := bel_step hB0 hWV
              have hS : ∀ w', Bel V w' → w'.cell? ⟨wr.heap.size, 0, none⟩ = some (.int .i64 d.fr) ∧ w'.cell? ⟨wr.heap.size, 1, none⟩ = some (.int .i64 d.to) ∧ w'.cell? ⟨w.heap.size, 1, none⟩ = some (.slice a1 j c1) ∧ w'.cell? ⟨w.heap.size, 2, none⟩ = some (.slice (some ⟨b, off, none⟩) n2 c2) := fun w' h =>
                ⟨(XV.bel h).cell 0 (by simp), (XV.bel h).cell 1 (by simp), (hG w' (bel_step hWV h)).2.1, (hG w' (bel_step hWV h)).2.2.1⟩
              have g0 : Bel V V := Bel.refl _
              have hlt' : (t : Int) < (n2 : Int) := by omega
              clear XV i0 i1 T2
              go_upto_region 21 with fail
              rw [← HV.out]
              clear y0 y1 y2 yl
              by_cases f0 : d.fr < 0
              · have HF : Hid (false = bP (graphP g)) := (bP_false fun hh => by
                  have h := (hh.2.2.2 t hkl).1
                  rw [← Hd.out] at h
                  exact meetsP_fr (by rw [H1.out]; exact inN_not.2 (by omega)) h).symm
                have u1 : decide (d.fr < 0) = true := by simp [f0]
                clear hx z0 z1
                as_aux_lemma =>
                refine wp_region_noPanic ?_
                refine wp_region_held_drew (S := fun w' => Bel V w') (by kernel_rfl) (Bel.drew g0) (fun hHeld => ?_)
                refine tk 0 hHeld ?_; refine tk 1 hHeld ?_; refine tk 2 hHeld ?_; refine tk 3 hHeld ?_; refine sk 4 hHeld ?_; refine sk 5 hHeld ?_
                refine sk 6 hHeld ?_; refine sk 7 hHeld ?_; refine tk 8 hHeld ?_; refine tk 9 hHeld ?_; refine sk 10 hHeld ?_; refine sk 11 hHeld ?_
                refine sk 12 hHeld ?_; refine tk 13 hHeld ?_; refine tk 14 hHeld ?_; refine sk 15 hHeld ?_; refine sk 16 hHeld ?_
                refine sk 17 hHeld ?_; refine sk 18 hHeld ?_; refine tk 19 hHeld ?_; refine tk 20 hHeld ?_; refine sk 21 hHeld ?_
                refine sk 22 hHeld ?_; refine sk 23 hHeld ?_; refine sk 24 hHeld ?_; refine sk 25 hHeld ?_; refine sk 26 hHeld ?_
                refine sk 27 hHeld ?_; refine sk 28 hHeld ?_; refine sk 29 hHeld ?_; refine sk 30 hHeld ?_; refine sk 31 hHeld ?_
                refine sk 32 hHeld ?_; refine sk 33 hHeld ?_; refine sk 34 hHeld ?_; refine sk 35 hHeld ?_; refine tk 36 hHeld ?_
                refine tk 37 hHeld ?_; refine sk 38 hHeld ?_; refine sk 39 hHeld ?_; refine sk 40 hHeld ?_; refine sk 41 hHeld ?_
                refine sk 42 hHeld ?_; refine sk 43 hHeld ?_; refine sk 44 hHeld ?_; refine sk 45 hHeld ?_; refine sk 46 hHeld ?_
                refine sk 47 hHeld ?_; refine sk 48 hHeld ?_; refine sk 49 hHeld ?_; refine sk 50 hHeld ?_; refine tk 51 hHeld ?_
                refine wpAnyH_done (by kernel_rfl) ?_ _
                refine NoPanic.normal ?_
                go_wp2
                go_ret
                exact ⟨ret_bl HF.out, bel_step hBV hHeld⟩
              by_cases f1 : d.fr < j
              rotate_left
              · have HF : Hid (false = bP (graphP g)) := (bP_false fun hh => by
                  have h := (hh.2.2.2 t hkl).1
                  rw [← Hd.out] at h
                  exact meetsP_fr (by rw [H1.out]; exact inN_not.2 (by omega)) h).symm
                have u1 : decide (d.fr < 0) = false := by simp; omega
                have u2 : decide ((j : Int) ≤ d.fr) = true := by simp; omega
                clear hx z0 z1
                as_aux_lemma =>
                refine wp_region_noPanic ?_
                refine wp_region_held_drew (S := fun w' => Bel V w') (by kernel_rfl) (Bel.drew g0) (fun hHeld => ?_)
                refine tk 0 hHeld ?_; refine tk 1 hHeld ?_; refine tk 2 hHeld ?_; refine tk 3 hHeld ?_; refine tk 4 hHeld ?_; refine tk 5 hHeld ?_
                refine tk 6 hHeld ?_; refine tk 7 hHeld ?_; refine tk 8 hHeld ?_; refine tk 9 hHeld ?_; refine sk 10 hHeld ?_; refine sk 11 hHeld ?_
                refine sk 12 hHeld ?_; refine tk 13 hHeld ?_; refine tk 14 hHeld ?_; refine sk 15 hHeld ?_; refine sk 16 hHeld ?_
                refine sk 17 hHeld ?_; refine sk 18 hHeld ?_; refine tk 19 hHeld ?_; refine tk 20 hHeld ?_; refine sk 21 hHeld ?_
                refine sk 22 hHeld ?_; refine sk 23 hHeld ?_; refine sk 24 hHeld ?_; refine sk 25 hHeld ?_; refine sk 26 hHeld ?_
                refine sk 27 hHeld ?_; refine sk 28 hHeld ?_; refine sk 29 hHeld ?_; refine sk 30 hHeld ?_; refine sk 31 hHeld ?_
                refine sk 32 hHeld ?_; refine sk 33 hHeld ?_; refine sk 34 hHeld ?_; refine sk 35 hHeld ?_; refine tk 36 hHeld ?_
                refine tk 37 hHeld ?_; refine sk 38 hHeld ?_; refine sk 39 hHeld ?_; refine sk 40 hHeld ?_; refine sk 41 hHeld ?_
                refine sk 42 hHeld ?_; refine sk 43 hHeld ?_; refine sk 44 hHeld ?_; refine sk 45 hHeld ?_; refine sk 46 hHeld ?_
                refine sk 47 hHeld ?_; refine sk 48 hHeld ?_; refine sk 49 hHeld ?_; refine sk 50 hHeld ?_; refine tk 51 hHeld ?_
                refine wpAnyH_done (by kernel_rfl) ?_ _
                refine NoPanic.normal ?_
                go_wp2
                go_ret
                exact ⟨ret_bl HF.out, bel_step hBV hHeld⟩
              obtain ⟨ri, hri, er⟩ := inN_nat (n := j) (x := d.fr) (inN_iff.2 ⟨by omega, f1⟩)
              clear f0 f1
              have u1 : decide ((ri : Int) < 0) = false := by simp
              have u2 : decide ((j : Int) ≤ (ri : Int)) = false := by simp; omega
              have u2' : decide (j ≤ ri) = false := by simp; omega
              have hS1 : ∀ w', Bel V w' → w'.cell? ⟨wr.heap.size, 0, none⟩ = some (.int .i64 (ri : Int)) ∧ w'.cell? ⟨wr.heap.size, 1, none⟩ = some (.int .i64 d.to) ∧ w'.cell? ⟨w.heap.size, 1, none⟩ = some (.slice a1 j c1) ∧ w'.cell? ⟨w.heap.size, 2, none⟩ = some (.slice (some ⟨b, off, none⟩) n2 c2) := fun w' h => by
                obtain ⟨s0, s1, s2, s3⟩ := hS w' h
                rw [er] at s0
                exact ⟨s0, s1, s2, s3⟩
              clear hS
              by_cases f0 : d.to < 0
              · have HF : Hid (false = bP (graphP g)) := (bP_false fun hh => by
                  have h := (hh.2.2.2 t hkl).1
                  rw [← Hd.out] at h
                  exact meetsP_to (by rw [H1.out]; exact inN_not.2 (by omega)) h).symm
                have u3 : decide (d.to < 0) = true := by simp [f0]
                clear hx z0 z1 er
                as_aux_lemma =>
                refine wp_region_noPanic ?_
                refine wp_region_held_drew (S := fun w' => Bel V w') (by kernel_rfl) (Bel.drew g0) (fun hHeld => ?_)
                refine tk 0 hHeld ?_; refine tk 1 hHeld ?_; refine tk 2 hHeld ?_; refine tk 3 hHeld ?_; refine tk 4 hHeld ?_; refine tk 5 hHeld ?_
                refine tk 6 hHeld ?_; refine tk 7 hHeld ?_; refine tk 8 hHeld ?_; refine tk 9 hHeld ?_; refine tk 10 hHeld ?_; refine tk 11 hHeld ?_
                refine tk 12 hHeld ?_; refine tk 13 hHeld ?_; refine tk 14 hHeld ?_; refine sk 15 hHeld ?_; refine sk 16 hHeld ?_
                refine sk 17 hHeld ?_; refine sk 18 hHeld ?_; refine tk 19 hHeld ?_; refine tk 20 hHeld ?_; refine sk 21 hHeld ?_
                refine sk 22 hHeld ?_; refine sk 23 hHeld ?_; refine sk 24 hHeld ?_; refine sk 25 hHeld ?_; refine sk 26 hHeld ?_
                refine sk 27 hHeld ?_; refine sk 28 hHeld ?_; refine sk 29 hHeld ?_; refine sk 30 hHeld ?_; refine sk 31 hHeld ?_
                refine sk 32 hHeld ?_; refine sk 33 hHeld ?_; refine sk 34 hHeld ?_; refine sk 35 hHeld ?_; refine tk 36 hHeld ?_
                refine tk 37 hHeld ?_; refine sk 38 hHeld ?_; refine sk 39 hHeld ?_; refine sk 40 hHeld ?_; refine sk 41 hHeld ?_
                refine sk 42 hHeld ?_; refine sk 43 hHeld ?_; refine sk 44 hHeld ?_; refine sk 45 hHeld ?_; refine sk 46 hHeld ?_
                refine sk 47 hHeld ?_; refine sk 48 hHeld ?_; refine sk 49 hHeld ?_; refine sk 50 hHeld ?_; refine tk 51 hHeld ?_
                refine wpAnyH_done (by kernel_rfl) ?_ _
                refine NoPanic.normal ?_
                go_wp2
                go_ret
                exact ⟨ret_bl HF.out, bel_step hBV hHeld⟩
              by_cases f1 : d.to < j
              rotate_left
              · have HF : Hid (false = bP (graphP g)) := (bP_false fun hh => by
                  have h := (hh.2.2.2 t hkl).1
                  rw [← Hd.out] at h
                  exact meetsP_to (by rw [H1.out]; exact inN_not.2 (by omega)) h).symm
                have u3 : decide (d.to < 0) = false := by simp; omega
                have u4 : decide ((j : Int) ≤ d.to) = true := by simp; omega
                clear hx z0 z1 er
                as_aux_lemma =>
                refine wp_region_noPanic ?_
                refine wp_region_held_drew (S := fun w' => Bel V w') (by kernel_rfl) (Bel.drew g0) (fun hHeld => ?_)
                refine tk 0 hHeld ?_; refine tk 1 hHeld ?_; refine tk 2 hHeld ?_; refine tk 3 hHeld ?_; refine tk 4 hHeld ?_; refine tk 5 hHeld ?_
                refine tk 6 hHeld ?_; refine tk 7 hHeld ?_; refine tk 8 hHeld ?_; refine tk 9 hHeld ?_; refine tk 10 hHeld ?_; refine tk 11 hHeld ?_
                refine tk 12 hHeld ?_; refine tk 13 hHeld ?_; refine tk 14 hHeld ?_; refine tk 15 hHeld ?_; refine tk 16 hHeld ?_
                refine tk 17 hHeld ?_; refine tk 18 hHeld ?_; refine tk 19 hHeld ?_; refine tk 20 hHeld ?_; refine sk 21 hHeld ?_
                refine sk 22 hHeld ?_; refine sk 23 hHeld ?_; refine sk 24 hHeld ?_; refine sk 25 hHeld ?_; refine sk 26 hHeld ?_
                refine sk 27 hHeld ?_; refine sk 28 hHeld ?_; refine sk 29 hHeld ?_; refine sk 30 hHeld ?_; refine sk 31 hHeld ?_
                refine sk 32 hHeld ?_; refine sk 33 hHeld ?_; refine sk 34 hHeld ?_; refine sk 35 hHeld ?_; refine tk 36 hHeld ?_
                refine tk 37 hHeld ?_; refine sk 38 hHeld ?_; refine sk 39 hHeld ?_; refine sk 40 hHeld ?_; refine sk 41 hHeld ?_
                refine sk 42 hHeld ?_; refine sk 43 hHeld ?_; refine sk 44 hHeld ?_; refine sk 45 hHeld ?_; refine sk 46 hHeld ?_
                refine sk 47 hHeld ?_; refine sk 48 hHeld ?_; refine sk 49 hHeld ?_; refine sk 50 hHeld ?_; refine tk 51 hHeld ?_
                refine wpAnyH_done (by kernel_rfl) ?_ _
                refine NoPanic.normal ?_
                go_wp2
                go_ret
                exact ⟨ret_bl HF.out, bel_step hBV hHeld⟩
              obtain ⟨rj, hrj, et⟩ := inN_nat (n := j) (x := d.to) (inN_iff.2 ⟨by omega, f1⟩)
              clear f0 f1
              have u3 : decide ((rj : Int) < 0) = false := by simp
              have u4 : decide ((j : Int) ≤ (rj : Int)) = false := by simp; omega
              have u4' : decide (j ≤ rj) = false := by simp; omega
              have hril : ri < g.roads.length := by rw [H1.out]; exact hri
              have hrjl : rj < g.roads.length := by rw [H1.out]; exact hrj
              obtain ⟨rb, ro, rf, rfl, hrb, hrx⟩ := (T1.bel roadE hWV).out hril
              obtain ⟨_, _, _, _, _, _, _, _, x1, _⟩ := hrx ri hril
              obtain ⟨_, _, _, _, _, _, _, x0, _⟩ := hrx rj hrjl
              obtain ⟨p, Hp⟩ : ∃ p, Hid (p = g.roads[ri].to) := ⟨_, (rfl : g.roads[ri].to = _)⟩
              obtain ⟨q, Hq⟩ : ∃ p, Hid (p = g.roads[rj].fr) := ⟨_, (rfl : g.roads[rj].fr = _)⟩
              rw [← Hp.out] at x1
              rw [← Hq.out] at x0
              have hS2 : ∀ w', Bel V w' → w'.cell? ⟨wr.heap.size, 0, none⟩ = some (.int .i64 (ri : Int)) ∧ w'.cell? ⟨wr.heap.size, 1, none⟩ = some (.int .i64 (rj : Int)) ∧ w'.cell? ⟨w.heap.size, 1, none⟩ = some (.slice (some ⟨rb, ro, none⟩) j c1) ∧ w'.cell? ⟨w.heap.size, 2, none⟩ = some (.slice (some ⟨b, off, none⟩) n2 c2) ∧ w'.cell? ⟨rb, ro + ri * 6 + 1, none⟩ = some (.int .i64 p) ∧ w'.cell? ⟨rb, ro + rj * 6, none⟩ = some (.int .i64 q) := fun w' h => by
                obtain ⟨s0, s1, s2, s3⟩ := hS1 w' h
                rw [et] at s1
                exact ⟨s0, s1, s2, s3, bel_cellM h hrb x1, bel_cellM h hrb x0⟩
              have HMM : Hid (meetsP g.roads g.bans[t] ↔ p = q) := by rw [Hp.out, Hq.out, ← Hd.out]; exact meetsP_at hril hrjl er et
              have hri' : (ri : Int) < (j : Int) := by omega
              have hrj' : (rj : Int) < (j : Int) := by omega
              by_cases hpq : p = q
              rotate_left
              · have HF : Hid (false = bP (graphP g)) := (bP_false fun hh => hpq (HMM.out.1 (hh.2.2.2 t hkl).1)).symm
                have hq1 : (p != q) = true := by simp [hpq]
                have hq2 : (p == q) = false := by simp [hpq]
                clear hx hrx z0 z1 x0 x1 er et hS1 hpq
                as_aux_lemma =>
                refine wp_region_noPanic ?_
                refine wp_region_held_drew (S := fun w' => Bel V w') (by kernel_rfl) (Bel.drew g0) (fun hHeld => ?_)
                refine tk 0 hHeld ?_; refine tk 1 hHeld ?_; refine tk 2 hHeld ?_; refine tk 3 hHeld ?_; refine tk 4 hHeld ?_; refine tk 5 hHeld ?_
                refine tk 6 hHeld ?_; refine tk 7 hHeld ?_; refine tk 8 hHeld ?_; refine tk 9 hHeld ?_; refine tk 10 hHeld ?_; refine tk 11 hHeld ?_
                refine tk 12 hHeld ?_; refine tk 13 hHeld ?_; refine tk 14 hHeld ?_; refine tk 15 hHeld ?_; refine tk 16 hHeld ?_
                refine tk 17 hHeld ?_; refine tk 18 hHeld ?_; refine tk 19 hHeld ?_; refine tk 20 hHeld ?_; refine tk 21 hHeld ?_
                refine tk 22 hHeld ?_; refine tk 23 hHeld ?_; refine tk 24 hHeld ?_; refine tk 25 hHeld ?_; refine tk 26 hHeld ?_
                refine tk 27 hHeld ?_; refine tk 28 hHeld ?_; refine tk 29 hHeld ?_; refine tk 30 hHeld ?_; refine tk 31 hHeld ?_
                refine tk 32 hHeld ?_; refine tk 33 hHeld ?_; refine tk 34 hHeld ?_; refine tk 35 hHeld ?_; refine tk 36 hHeld ?_
                refine tk 37 hHeld ?_; refine sk 38 hHeld ?_; refine sk 39 hHeld ?_; refine sk 40 hHeld ?_; refine sk 41 hHeld ?_
                refine sk 42 hHeld ?_; refine sk 43 hHeld ?_; refine sk 44 hHeld ?_; refine sk 45 hHeld ?_; refine sk 46 hHeld ?_
                refine sk 47 hHeld ?_; refine sk 48 hHeld ?_; refine sk 49 hHeld ?_; refine sk 50 hHeld ?_; refine tk 51 hHeld ?_
                refine wpAnyH_done (by kernel_rfl) ?_ _
                refine NoPanic.normal ?_
                go_wp2
                go_ret
                exact ⟨ret_bl HF.out, bel_step hBV hHeld⟩
              have HM : Hid (meetsP g.roads g.bans[t]) := HMM.out.2 hpq
              subst hpq
              rcases t with _ | m
              · have HA : Hid (meetsP g.roads g.bans[0] ∧ ((0 : Nat) < 0 → banLt (g.bans[0 - 1]'(by omega)) g.bans[0])) := ⟨HM.out, fun h => absurd h (Nat.lt_irrefl _)⟩
                clear hx hrx z0 z1 x0 x1 er et hS1
                as_aux_lemma =>
                refine wp_region_noPanic ?_
                refine wp_region_held_drew (S := fun w' => Bel V w') (by kernel_rfl) (Bel.drew g0) (fun hHeld => ?_)
                refine tk 0 hHeld ?_; refine tk 1 hHeld ?_; refine tk 2 hHeld ?_; refine tk 3 hHeld ?_; refine tk 4 hHeld ?_; refine tk 5 hHeld ?_
                refine tk 6 hHeld ?_; refine tk 7 hHeld ?_; refine tk 8 hHeld ?_; refine tk 9 hHeld ?_; refine tk 10 hHeld ?_; refine tk 11 hHeld ?_
                refine tk 12 hHeld ?_; refine tk 13 hHeld ?_; refine tk 14 hHeld ?_; refine tk 15 hHeld ?_; refine tk 16 hHeld ?_
                refine tk 17 hHeld ?_; refine tk 18 hHeld ?_; refine tk 19 hHeld ?_; refine tk 20 hHeld ?_; refine tk 21 hHeld ?_
                refine tk 22 hHeld ?_; refine tk 23 hHeld ?_; refine tk 24 hHeld ?_; refine tk 25 hHeld ?_; refine tk 26 hHeld ?_
                refine tk 27 hHeld ?_; refine tk 28 hHeld ?_; refine tk 29 hHeld ?_; refine tk 30 hHeld ?_; refine tk 31 hHeld ?_
                refine tk 32 hHeld ?_; refine tk 33 hHeld ?_; refine tk 34 hHeld ?_; refine tk 35 hHeld ?_; refine tk 36 hHeld ?_
                refine tk 37 hHeld ?_; refine tk 38 hHeld ?_; refine tk 39 hHeld ?_; refine tk 40 hHeld ?_; refine sk 41 hHeld ?_
                refine sk 42 hHeld ?_; refine sk 43 hHeld ?_; refine sk 44 hHeld ?_; refine sk 45 hHeld ?_; refine sk 46 hHeld ?_
                refine sk 47 hHeld ?_; refine sk 48 hHeld ?_; refine sk 49 hHeld ?_; refine tk 50 hHeld ?_; refine tk 51 hHeld ?_
                refine wpAnyH_done (by kernel_rfl) ?_ _
                refine NoPanic.normal ?_
                go_wp2
                go_roundw
                case rel => exact ⟨1, by omega, by go_num, fun i h hi => by
                                obtain rfl : i = 0 := by omega
                                exact HA.out, bel_step hWV hHeld⟩
                case measure => simp [intOf]; omega
              · obtain ⟨P, HP⟩ : ∃ d, Hid (d = g.bans[m]) := ⟨_, (rfl : g.bans[m] = _)⟩
                obtain ⟨_, _, _, p0, p1⟩ := hx m (by omega)
                rw [← HP.out] at p0 p1
                obtain ⟨r, HR2⟩ : ∃ r, Hid (bP (banLt P d) = r) := ⟨_, (rfl : bP (banLt P d) = _)⟩
                have cB : ∀ w, Calls Try.prog 50 #[.agg #[.int .i64 P.fr, .int .i64 P.to], .agg #[.int .i64 (ri : Int), .int .i64 (rj : Int)]] w fun e w' => e = .returned (.bool r) ∧ Bel w w' := fun w => by rw [← HR2.out, ← er, ← et]; exact banLess_any P d w
                have hS3 : ∀ w', Bel V w' → w'.cell? ⟨b, off + m * 2, none⟩ = some (.int .i64 P.fr) ∧ w'.cell? ⟨b, off + m * 2 + 1, none⟩ = some (.int .i64 P.to) := fun w' h => ⟨bel_cellM (bel_step hbV h) hb p0, bel_cellM (bel_step hbV h) hb p1⟩
                have hmm : IntKind.i64.wrap (m : Int) = m := by rw [IntKind.wrap_i64]; omega
                have hltm : (m : Int) < (n2 : Int) := by omega
                clear hx hrx z0 z1 x0 x1 er et hS1 p0 p1
                rcases Bool.eq_false_or_eq_true r with hr0 | hr0
                · have HA : Hid (meetsP g.roads g.bans[m + 1] ∧ ((0 : Nat) < m + 1 → banLt (g.bans[m + 1 - 1]'(by omega)) g.bans[m + 1])) := ⟨HM.out, fun _ => by simp only [Nat.add_sub_cancel]; rw [← Hd.out, ← HP.out]; exact bP_out (by rw [HR2.out]; exact hr0)⟩
                  subst hr0
                  as_aux_lemma =>
                  refine wp_region_noPanic ?_
                  refine wp_region_held_drew (S := fun w' => Bel V w') (by kernel_rfl) (Bel.drew g0) (fun hHeld => ?_)
                  refine tk 0 hHeld ?_; refine tk 1 hHeld ?_; refine tk 2 hHeld ?_; refine tk 3 hHeld ?_; refine tk 4 hHeld ?_; refine tk 5 hHeld ?_
                  refine tk 6 hHeld ?_; refine tk 7 hHeld ?_; refine tk 8 hHeld ?_; refine tk 9 hHeld ?_; refine tk 10 hHeld ?_; refine tk 11 hHeld ?_
                  refine tk 12 hHeld ?_; refine tk 13 hHeld ?_; refine tk 14 hHeld ?_; refine tk 15 hHeld ?_; refine tk 16 hHeld ?_
                  refine tk 17 hHeld ?_; refine tk 18 hHeld ?_; refine tk 19 hHeld ?_; refine tk 20 hHeld ?_; refine tk 21 hHeld ?_
                  refine tk 22 hHeld ?_; refine tk 23 hHeld ?_; refine tk 24 hHeld ?_; refine tk 25 hHeld ?_; refine tk 26 hHeld ?_
                  refine tk 27 hHeld ?_; refine tk 28 hHeld ?_; refine tk 29 hHeld ?_; refine tk 30 hHeld ?_; refine tk 31 hHeld ?_
                  refine tk 32 hHeld ?_; refine tk 33 hHeld ?_; refine tk 34 hHeld ?_; refine tk 35 hHeld ?_; refine tk 36 hHeld ?_
                  refine tk 37 hHeld ?_; refine tk 38 hHeld ?_; refine tk 39 hHeld ?_; refine tk 40 hHeld ?_; refine tk 41 hHeld ?_
                  refine tk 42 hHeld ?_; refine tk 43 hHeld ?_; refine tk 44 hHeld ?_; refine tk 45 hHeld ?_; refine tk 46 hHeld ?_
                  refine tk 47 hHeld ?_
                  refine rd1 48 (fun K hK => ?_)
                  go_simp
                  refine (cB _).mono ?_
                  rintro e w3 ⟨rfl, hbk⟩
                  go_wp2_with fail
                  refine hK.out _ _ ((by first | exact bel_step hHeld hbk | exact hHeld)) (fun hHeld' => ?_)
                  clear hK K hHeld
                  have hHeld := hHeld'
                  clear hHeld'
                  try simp only [Act.put, List.setIfInBounds_toArray, List.set_cons_zero, List.set_cons_succ]
                  refine tk 49 hHeld ?_; refine tk 50 hHeld ?_; refine tk 51 hHeld ?_
                  refine wpAnyH_done (by kernel_rfl) ?_ _
                  refine NoPanic.normal ?_
                  go_wp2
                  go_roundw
                  case rel => exact ⟨m + 2, by omega, by go_num, fun i h hi => by
                                  (by_cases e : i = m + 1)
                                  · subst e; exact HA.out
                                  · exact H.out i h (by omega), bel_step hWV hHeld⟩
                  case measure => simp [intOf]; omega
                · have HF : Hid (false = bP (graphP g)) := (bP_false fun hh => by
                    have h := (hh.2.2.2 (m + 1) hkl).2 (Nat.succ_pos _)
                    simp only [Nat.add_sub_cancel] at h
                    rw [← Hd.out, ← HP.out] at h
                    exact bP_not (by rw [HR2.out]; exact hr0) h).symm
                  subst hr0
                  as_aux_lemma =>
                  refine wp_region_noPanic ?_
                  refine wp_region_held_drew (S := fun w' => Bel V w') (by kernel_rfl) (Bel.drew g0) (fun hHeld => ?_)
                  refine tk 0 hHeld ?_; refine tk 1 hHeld ?_; refine tk 2 hHeld ?_; refine tk 3 hHeld ?_; refine tk 4 hHeld ?_; refine tk 5 hHeld ?_
                  refine tk 6 hHeld ?_; refine tk 7 hHeld ?_; refine tk 8 hHeld ?_; refine tk 9 hHeld ?_; refine tk 10 hHeld ?_; refine tk 11 hHeld ?_
                  refine tk 12 hHeld ?_; refine tk 13 hHeld ?_; refine tk 14 hHeld ?_; refine tk 15 hHeld ?_; refine tk 16 hHeld ?_
                  refine tk 17 hHeld ?_; refine tk 18 hHeld ?_; refine tk 19 hHeld ?_; refine tk 20 hHeld ?_; refine tk 21 hHeld ?_
                  refine tk 22 hHeld ?_; refine tk 23 hHeld ?_; refine tk 24 hHeld ?_; refine tk 25 hHeld ?_; refine tk 26 hHeld ?_
                  refine tk 27 hHeld ?_; refine tk 28 hHeld ?_; refine tk 29 hHeld ?_; refine tk 30 hHeld ?_; refine tk 31 hHeld ?_
                  refine tk 32 hHeld ?_; refine tk 33 hHeld ?_; refine tk 34 hHeld ?_; refine tk 35 hHeld ?_; refine tk 36 hHeld ?_
                  refine tk 37 hHeld ?_; refine tk 38 hHeld ?_; refine tk 39 hHeld ?_; refine tk 40 hHeld ?_; refine tk 41 hHeld ?_
                  refine tk 42 hHeld ?_; refine tk 43 hHeld ?_; refine tk 44 hHeld ?_; refine tk 45 hHeld ?_; refine tk 46 hHeld ?_
                  refine tk 47 hHeld ?_
                  refine rd1 48 (fun K hK => ?_)
                  go_simp
                  refine (cB _).mono ?_
                  rintro e w3 ⟨rfl, hbk⟩
                  go_wp2_with fail
                  refine hK.out _ _ ((by first | exact bel_step hHeld hbk | exact hHeld)) (fun hHeld' => ?_)
                  clear hK K hHeld
                  have hHeld := hHeld'
                  clear hHeld'
                  try simp only [Act.put, List.setIfInBounds_toArray, List.set_cons_zero, List.set_cons_succ]
                  refine tk 49 hHeld ?_; refine tk 50 hHeld ?_; refine tk 51 hHeld ?_
                  refine wpAnyH_done (by kernel_rfl) ?_ _
                  refine NoPanic.normal ?_
                  go_wp2
                  go_ret
                  exact ⟨ret_bl HF.out, bel_step hBV hHeld⟩
            · have HT : Hid (true = bP (graphP g)) := (bP_true ⟨⟨by rw [H0.out]; exact k0, by rw [H1.out]; exact k1, by rw [H2.out]; exact k2⟩, HSP.out, HRP.out, fun i h => H.out i h (by rw [H2.out] at h; omega)⟩).symm
              go_wp2
              go_ret
              exact ⟨ret_bl HT.out, bel_step hB0 hbel3⟩
end Go.Proofs.Ytiagdabikbjbiaa

