/-
  Whether a graph can be, in the model: its places fail: contract.
-/
import Derived.Test.YtiagdabikbjbiaaXA
import Derived.Test.YtiagdabikbjbiaaGphP
namespace Go.Proofs.Ytiagdabikbjbiaa
open Go.RowKit Go.Maps

set_option maxRecDepth 100000 in
set_option maxHeartbeats 8000000 in
theorem specGraphOk_1 (v : Value) (g : GraphD) (bs : List Nat) (w : World) (hV : GphV w v g bs) (hQ : GphQ g) (hbig : g.places.length ≤ 5000 ∧ g.roads.length ≤ 8000 ∧ g.bans.length ≤ 2000) (hno : ¬ spotsP g.places) :
    Calls Try.prog 22 #[v] w fun e w' => e = .returned (.bool (bP (graphP g))) ∧ Bel w w' := by
  obtain ⟨a0, c0, a1, c1, a2, c2, b0, b1, b2, _, rfl, t0, t1, t2⟩ := hV
  obtain ⟨m0, m1, m2⟩ := hQ
  obtain ⟨n0, H0⟩ : ∃ n, Hid (g.places.length = n) := ⟨_, (rfl : g.places.length = _)⟩
  obtain ⟨n1, H1⟩ : ∃ n, Hid (g.roads.length = n) := ⟨_, (rfl : g.roads.length = _)⟩
  obtain ⟨n2, H2⟩ : ∃ n, Hid (g.bans.length = n) := ⟨_, (rfl : g.bans.length = _)⟩
  rw [H0.out] at m0
  rw [H1.out] at m1
  rw [H2.out] at m2
  rw [H0.out, H1.out, H2.out] at hbig
  rw [H0.out, H1.out, H2.out]
  obtain ⟨W, HW⟩ : ∃ W, Hid (W = w.alloc (.cells #[.slice a0 n0 c0, .slice a1 n1 c1, .slice a2 n2 c2] 34)) := ⟨_, (rfl : w.alloc (.cells #[.slice a0 n0 c0, .slice a1 n1 c1, .slice a2 n2 c2] 34) = _)⟩
  have hB0 : Bel w W := by rw [HW.out]; exact bel_alloc (Bel.refl _) _
  have X0 : Blk W w.heap.size [.slice a0 n0 c0, .slice a1 n1 c1, .slice a2 n2 c2] := by rw [HW.out]; exact Blk.new w [.slice a0 n0 c0, .slice a1 n1 c1, .slice a2 n2 c2] _
  have hG : ∀ w', Bel W w' → w'.cell? ⟨w.heap.size, 0, none⟩ = some (.slice a0 n0 c0) ∧ w'.cell? ⟨w.heap.size, 1, none⟩ = some (.slice a1 n1 c1) ∧ w'.cell? ⟨w.heap.size, 2, none⟩ = some (.slice a2 n2 c2) ∧ w.heap.size < w'.heap.size := fun w' h =>
    ⟨(X0.bel h).cell 0 (by simp), (X0.bel h).cell 1 (by simp), (X0.bel h).cell 2 (by simp), (X0.bel h).lt⟩
  have T0 := t0.bel spotE hB0
  have T1 := t1.bel roadE hB0
  have T2 := t2.bel banE hB0
  clear t0 t1 t2 X0
  obtain ⟨y0, y1, y2, yl⟩ := hG W (Bel.refl _)
  obtain ⟨k0, k1, k2⟩ := hbig
  have K0 : (n0 : Int) ≤ 5000 := by omega
  have K1 : (n1 : Int) ≤ 8000 := by omega
  have K2 : (n2 : Int) ≤ 2000 := by omega
  go_enter Try.func22, Try.ntmps22
  go_wp2
  rw [← HW.out]
  go_wp2
  clear y0 y1 y2 yl
  go_loopw [3, 4] (fun i _ wr => ∃ k : Nat, k ≤ n0 ∧ i = .int .i64 k ∧ (∀ j (h : j < g.places.length), j < k → SpotAt g.places j h) ∧ Bel W wr) (fun i _ _ => n0 - (intOf i).toNat)
  case atStart => exact ⟨0, Nat.zero_le _, rfl, fun j _ hj => absurd hj (Nat.not_lt_zero _), Bel.refl _⟩
  case round =>
    obtain ⟨k, hk, rfl, hall, hbel⟩ := hrel
    have H : Hid (∀ j (h : j < g.places.length), j < k → SpotAt g.places j h) := hall
    clear hall
    obtain ⟨y0, y1, y2, yl⟩ := hG wr hbel
    by_cases hlt : k < n0
    · have hkl : k < g.places.length := by rw [H0.out]; exact hlt
      obtain ⟨b, off, f, rfl, hb, hx⟩ := (T0.bel spotE hbel).out hkl
      obtain ⟨_, i0, i1, i2, z0, z1, z2⟩ := hx k hkl
      obtain ⟨d, Hd⟩ : ∃ d, Hid (d = g.places[k]) := ⟨_, (rfl : g.places[k] = _)⟩
      rw [← Hd.out] at z0 z1 z2
      obtain ⟨V, HV⟩ : ∃ V, Hid (V = wr.alloc (.cells #[.int .i64 d.id, .int .i64 d.x, .int .i64 d.y] 83)) := ⟨_, (rfl : wr.alloc (.cells #[.int .i64 d.id, .int .i64 d.x, .int .i64 d.y] 83) = _)⟩
      have hbV : Bel wr V := by rw [HV.out]; exact bel_alloc (Bel.refl _) _
      have XV : Blk V wr.heap.size [.int .i64 d.id, .int .i64 d.x, .int .i64 d.y] := by rw [HV.out]; exact Blk.new wr [.int .i64 d.id, .int .i64 d.x, .int .i64 d.y] _
      have hWV := bel_step hbel hbV
      have hBV := bel_step hB0 hWV
      have hS : ∀ w', Bel V w' → w'.cell? ⟨wr.heap.size, 0, none⟩ = some (.int .i64 d.id) ∧ w'.cell? ⟨wr.heap.size, 1, none⟩ = some (.int .i64 d.x) ∧ w'.cell? ⟨wr.heap.size, 2, none⟩ = some (.int .i64 d.y) ∧ w'.cell? ⟨w.heap.size, 0, none⟩ = some (.slice (some ⟨b, off, none⟩) n0 c0) := fun w' h =>
        ⟨(XV.bel h).cell 0 (by simp), (XV.bel h).cell 1 (by simp), (XV.bel h).cell 2 (by simp), (hG w' (bel_step hWV h)).1⟩
      have g0 : Bel V V := Bel.refl _
      have hlt' : (k : Int) < (n0 : Int) := by omega
      clear XV i0 i1 i2 T0
      go_upto_region 7 with fail
      rw [← HV.out]
      clear y0 y1 y2 yl
      rcases Bool.eq_false_or_eq_true (idk d.id) with hi | hi
      · rcases Bool.eq_false_or_eq_true (pok d.x d.y) with hp | hp
        · rcases k with _ | m
          · have HA : Hid (SpotAt g.places 0 hkl) := ⟨by rw [← Hd.out]; exact hi, by rw [← Hd.out]; exact hp, fun h => absurd h (Nat.lt_irrefl _)⟩
            clear hx z0 z1 z2
            refine wp_region_noPanic ?_
            refine wp_region_held_drew (S := fun w' => Bel V w') (by kernel_rfl) (Bel.drew g0) (fun hHeld => ?_)
            refine tk 0 hHeld ?_; refine tk 1 hHeld ?_
            refine rd1 2 (fun K hK => ?_)
            go_simp
            refine (l2IdG_r _ true _ hi).mono ?_
            rintro e w1 ⟨rfl, rfl⟩
            go_wp2_with fail
            refine hK.out _ _ ((by first | exact bel_step hHeld hbk | exact hHeld)) (fun hHeld' => ?_)
            clear hK K hHeld
            have hHeld := hHeld'
            clear hHeld'
            try simp only [Act.put, List.setIfInBounds_toArray, List.set_cons_zero, List.set_cons_succ]
            refine tk 3 hHeld ?_; refine tk 4 hHeld ?_; refine tk 5 hHeld ?_; refine tk 6 hHeld ?_
            refine rd1 7 (fun K hK => ?_)
            go_simp
            refine (specPointG_r _ _ true _ hp).mono ?_
            rintro e w2 ⟨rfl, hbk⟩
            go_wp2_with fail
            refine hK.out _ _ ((by first | exact bel_step hHeld hbk | exact hHeld)) (fun hHeld' => ?_)
            clear hK K hHeld
            have hHeld := hHeld'
            clear hHeld'
            try simp only [Act.put, List.setIfInBounds_toArray, List.set_cons_zero, List.set_cons_succ]
            refine tk 8 hHeld ?_; refine tk 9 hHeld ?_; refine tk 10 hHeld ?_; refine tk 11 hHeld ?_; refine tk 12 hHeld ?_
            refine tk 13 hHeld ?_; refine sk 14 hHeld ?_; refine sk 15 hHeld ?_; refine sk 16 hHeld ?_; refine sk 17 hHeld ?_
            refine sk 18 hHeld ?_; refine sk 19 hHeld ?_; refine sk 20 hHeld ?_; refine sk 21 hHeld ?_; refine sk 22 hHeld ?_
            refine sk 23 hHeld ?_; refine tk 24 hHeld ?_; refine tk 25 hHeld ?_
            refine wpAnyH_done (by kernel_rfl) ?_ _
            refine NoPanic.normal ?_
            go_wp2
            go_roundw
            case rel => exact ⟨1, by omega, by go_num, fun j h hj => by
                            obtain rfl : j = 0 := by omega
                            exact HA.out, bel_step hWV hHeld⟩
            case measure => simp [intOf]; omega
          · obtain ⟨P, HP⟩ : ∃ d, Hid (d = g.places[m]) := ⟨_, (rfl : g.places[m] = _)⟩
            obtain ⟨_, _, _, _, p0, _, _⟩ := hx m (by omega)
            rw [← HP.out] at p0
            have hS3 : ∀ w', Bel V w' → w'.cell? ⟨b, off + m * 3, none⟩ = some (.int .i64 P.id) := fun w' h => bel_cellM (bel_step hbV h) hb p0
            have hmm : IntKind.i64.wrap (m : Int) = m := by rw [IntKind.wrap_i64]; omega
            have hltm : (m : Int) < (n0 : Int) := by omega
            clear hx z0 z1 z2 p0
            by_cases hr0 : P.id < d.id
            · have HA : Hid (SpotAt g.places (m + 1) hkl) := ⟨by rw [← Hd.out]; exact hi, by rw [← Hd.out]; exact hp, fun _ => by simp only [Nat.add_sub_cancel]; rw [← Hd.out, ← HP.out]; exact hr0⟩
              have hge : decide (d.id ≤ P.id) = false := by simp; omega
              refine wp_region_noPanic ?_
              refine wp_region_held_drew (S := fun w' => Bel V w') (by kernel_rfl) (Bel.drew g0) (fun hHeld => ?_)
              refine tk 0 hHeld ?_; refine tk 1 hHeld ?_
              refine rd1 2 (fun K hK => ?_)
              go_simp
              refine (l2IdG_r _ true _ hi).mono ?_
              rintro e w1 ⟨rfl, rfl⟩
              go_wp2_with fail
              refine hK.out _ _ ((by first | exact bel_step hHeld hbk | exact hHeld)) (fun hHeld' => ?_)
              clear hK K hHeld
              have hHeld := hHeld'
              clear hHeld'
              try simp only [Act.put, List.setIfInBounds_toArray, List.set_cons_zero, List.set_cons_succ]
              refine tk 3 hHeld ?_; refine tk 4 hHeld ?_; refine tk 5 hHeld ?_; refine tk 6 hHeld ?_
              refine rd1 7 (fun K hK => ?_)
              go_simp
              refine (specPointG_r _ _ true _ hp).mono ?_
              rintro e w2 ⟨rfl, hbk⟩
              go_wp2_with fail
              refine hK.out _ _ ((by first | exact bel_step hHeld hbk | exact hHeld)) (fun hHeld' => ?_)
              clear hK K hHeld
              have hHeld := hHeld'
              clear hHeld'
              try simp only [Act.put, List.setIfInBounds_toArray, List.set_cons_zero, List.set_cons_succ]
              refine tk 8 hHeld ?_; refine tk 9 hHeld ?_; refine tk 10 hHeld ?_; refine tk 11 hHeld ?_; refine tk 12 hHeld ?_
              refine tk 13 hHeld ?_; refine tk 14 hHeld ?_; refine tk 15 hHeld ?_; refine tk 16 hHeld ?_; refine tk 17 hHeld ?_
              refine tk 18 hHeld ?_; refine tk 19 hHeld ?_; refine tk 20 hHeld ?_; refine tk 21 hHeld ?_; refine tk 22 hHeld ?_
              refine tk 23 hHeld ?_; refine tk 24 hHeld ?_; refine tk 25 hHeld ?_
              refine wpAnyH_done (by kernel_rfl) ?_ _
              refine NoPanic.normal ?_
              go_wp2
              go_roundw
              case rel => exact ⟨m + 2, by omega, by go_num, fun j h hj => by
                              (by_cases e : j = m + 1)
                              · subst e; exact HA.out
                              · exact H.out j h (by omega), bel_step hWV hHeld⟩
              case measure => simp [intOf]; omega
            · have HF : Hid (false = bP (graphP g)) := (bP_false fun h => by
                have := (h.2.1 (m + 1) hkl).2.2 (Nat.succ_pos _)
                simp only [Nat.add_sub_cancel] at this
                rw [← Hd.out, ← HP.out] at this
                exact hr0 this).symm
              have hge : decide (d.id ≤ P.id) = true := by simp; omega
              refine wp_region_noPanic ?_
              refine wp_region_held_drew (S := fun w' => Bel V w') (by kernel_rfl) (Bel.drew g0) (fun hHeld => ?_)
              refine tk 0 hHeld ?_; refine tk 1 hHeld ?_
              refine rd1 2 (fun K hK => ?_)
              go_simp
              refine (l2IdG_r _ true _ hi).mono ?_
              rintro e w1 ⟨rfl, rfl⟩
              go_wp2_with fail
              refine hK.out _ _ ((by first | exact bel_step hHeld hbk | exact hHeld)) (fun hHeld' => ?_)
              clear hK K hHeld
              have hHeld := hHeld'
              clear hHeld'
              try simp only [Act.put, List.setIfInBounds_toArray, List.set_cons_zero, List.set_cons_succ]
              refine tk 3 hHeld ?_; refine tk 4 hHeld ?_; refine tk 5 hHeld ?_; refine tk 6 hHeld ?_
              refine rd1 7 (fun K hK => ?_)
              go_simp
              refine (specPointG_r _ _ true _ hp).mono ?_
              rintro e w2 ⟨rfl, hbk⟩
              go_wp2_with fail
              refine hK.out _ _ ((by first | exact bel_step hHeld hbk | exact hHeld)) (fun hHeld' => ?_)
              clear hK K hHeld
              have hHeld := hHeld'
              clear hHeld'
              try simp only [Act.put, List.setIfInBounds_toArray, List.set_cons_zero, List.set_cons_succ]
              refine tk 8 hHeld ?_; refine tk 9 hHeld ?_; refine tk 10 hHeld ?_; refine tk 11 hHeld ?_; refine tk 12 hHeld ?_
              refine tk 13 hHeld ?_; refine tk 14 hHeld ?_; refine tk 15 hHeld ?_; refine tk 16 hHeld ?_; refine tk 17 hHeld ?_
              refine tk 18 hHeld ?_; refine tk 19 hHeld ?_; refine tk 20 hHeld ?_; refine tk 21 hHeld ?_; refine tk 22 hHeld ?_
              refine tk 23 hHeld ?_; refine tk 24 hHeld ?_; refine tk 25 hHeld ?_
              refine wpAnyH_done (by kernel_rfl) ?_ _
              refine NoPanic.normal ?_
              go_wp2
              go_ret
              exact ⟨ret_bl HF.out, bel_step hBV hHeld⟩
        · have HF : Hid (false = bP (graphP g)) := (bP_false fun h => by
            have := (h.2.1 k hkl).2.1
            rw [← Hd.out, hp] at this
            cases this).symm
          clear hx z0 z1 z2
          refine wp_region_noPanic ?_
          refine wp_region_held_drew (S := fun w' => Bel V w') (by kernel_rfl) (Bel.drew g0) (fun hHeld => ?_)
          refine tk 0 hHeld ?_; refine tk 1 hHeld ?_
          refine rd1 2 (fun K hK => ?_)
          go_simp
          refine (l2IdG_r _ true _ hi).mono ?_
          rintro e w1 ⟨rfl, rfl⟩
          go_wp2_with fail
          refine hK.out _ _ ((by first | exact bel_step hHeld hbk | exact hHeld)) (fun hHeld' => ?_)
          clear hK K hHeld
          have hHeld := hHeld'
          clear hHeld'
          try simp only [Act.put, List.setIfInBounds_toArray, List.set_cons_zero, List.set_cons_succ]
          refine tk 3 hHeld ?_; refine tk 4 hHeld ?_; refine tk 5 hHeld ?_; refine tk 6 hHeld ?_
          refine rd1 7 (fun K hK => ?_)
          go_simp
          refine (specPointG_r _ _ false _ hp).mono ?_
          rintro e w2 ⟨rfl, hbk⟩
          go_wp2_with fail
          refine hK.out _ _ ((by first | exact bel_step hHeld hbk | exact hHeld)) (fun hHeld' => ?_)
          clear hK K hHeld
          have hHeld := hHeld'
          clear hHeld'
          try simp only [Act.put, List.setIfInBounds_toArray, List.set_cons_zero, List.set_cons_succ]
          refine tk 8 hHeld ?_; refine tk 9 hHeld ?_; refine tk 10 hHeld ?_; refine sk 11 hHeld ?_; refine sk 12 hHeld ?_
          refine sk 13 hHeld ?_; refine sk 14 hHeld ?_; refine sk 15 hHeld ?_; refine sk 16 hHeld ?_; refine sk 17 hHeld ?_
          refine sk 18 hHeld ?_; refine sk 19 hHeld ?_; refine sk 20 hHeld ?_; refine sk 21 hHeld ?_; refine sk 22 hHeld ?_
          refine sk 23 hHeld ?_; refine sk 24 hHeld ?_; refine tk 25 hHeld ?_
          refine wpAnyH_done (by kernel_rfl) ?_ _
          refine NoPanic.normal ?_
          go_wp2
          go_ret
          exact ⟨ret_bl HF.out, bel_step hBV hHeld⟩
      · have HF : Hid (false = bP (graphP g)) := (bP_false fun h => by
          have := (h.2.1 k hkl).1
          rw [← Hd.out, hi] at this
          cases this).symm
        clear hx z0 z1 z2
        refine wp_region_noPanic ?_
        refine wp_region_held_drew (S := fun w' => Bel V w') (by kernel_rfl) (Bel.drew g0) (fun hHeld => ?_)
        refine tk 0 hHeld ?_; refine tk 1 hHeld ?_
        refine rd1 2 (fun K hK => ?_)
        go_simp
        refine (l2IdG_r _ false _ hi).mono ?_
        rintro e w1 ⟨rfl, rfl⟩
        go_wp2_with fail
        refine hK.out _ _ (hHeld) (fun hHeld' => ?_)
        clear hK K hHeld
        have hHeld := hHeld'
        clear hHeld'
        try simp only [Act.put, List.setIfInBounds_toArray, List.set_cons_zero, List.set_cons_succ]
        refine tk 3 hHeld ?_; refine tk 4 hHeld ?_; refine sk 5 hHeld ?_; refine sk 6 hHeld ?_; refine sk 7 hHeld ?_; refine sk 8 hHeld ?_
        refine tk 9 hHeld ?_; refine tk 10 hHeld ?_; refine sk 11 hHeld ?_; refine sk 12 hHeld ?_; refine sk 13 hHeld ?_
        refine sk 14 hHeld ?_; refine sk 15 hHeld ?_; refine sk 16 hHeld ?_; refine sk 17 hHeld ?_; refine sk 18 hHeld ?_
        refine sk 19 hHeld ?_; refine sk 20 hHeld ?_; refine sk 21 hHeld ?_; refine sk 22 hHeld ?_; refine sk 23 hHeld ?_
        refine sk 24 hHeld ?_; refine tk 25 hHeld ?_
        refine wpAnyH_done (by kernel_rfl) ?_ _
        refine NoPanic.normal ?_
        go_wp2
        go_ret
        exact ⟨ret_bl HF.out, bel_step hBV hHeld⟩
    · exact absurd (fun i h => H.out i h (by rw [H0.out] at h; omega)) hno
end Go.Proofs.Ytiagdabikbjbiaa

