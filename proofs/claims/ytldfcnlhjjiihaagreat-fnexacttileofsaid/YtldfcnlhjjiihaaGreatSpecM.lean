/-
  Contract of MapOk in the model: for every map.
-/
import Derived.Test.YtldfcnlhjjiihaaGreatGA
import Derived.Test.YtldfcnlhjjiihaaGreatKJ
namespace Go.Proofs.YtldfcnlhjjiihaaGreat
open Go.RowKit Go.Maps

theorem l2IdOk_to (x : Int) (b : Bool) (w : World) (h : idB x = b) : Calls Tryz.prog 42 #[.int .i64 x] w fun e w' => e = .returned (.bool b) ∧ Bel w w' :=
 (l2IdOk_any x w).mono fun e w' ⟨h1, h2⟩ => ⟨by rw [h1, h], by rw [h2]; exact Bel.refl _⟩
theorem specPointOk_to (x y : Int) (b : Bool) (w : World) (h : pok x y = b) : Calls Tryz.prog 43 #[pt x y] w fun e w' => e = .returned (.bool b) ∧ Bel w w' :=
 (specPointOk_any x y w).mono fun e w' ⟨h1, h2⟩ => ⟨by rw [h1, h], h2⟩
theorem specTagsOk_to (a : Option Addr) (n c : Nat) (l : List TagD) (bs : List Nat) (b : Bool) (w : World) (h : tagsB l = b) (hT : Tags w a l bs) (hn : l.length = n) (hm : n ≤ 1048576) : Calls Tryz.prog 44 #[.slice a n c] w fun e w' => e = .returned (.bool b) ∧ Bel w w' :=
 (specTagsOk_any a n c l bs w hT hn hm).mono fun e w' ⟨h1, h2⟩ => ⟨by rw [h1, h], h2⟩
theorem idB_iff {x : Int} : idB x = true ↔ 1 ≤ x ∧ x ≤ 1000000000 := by simp [idB]
theorem wayP_of {n : Nat} {I : Nat → Int} {ns : List Int} {id : Int} {tg : List TagD} (h : bP (WokP n I id tg ns) = true) : (1 ≤ id ∧ id ≤ 1000000000) ∧ tagsB tg = true ∧ WayP n I ns := ⟨idB_iff.1 (bP_out h).h1, (bP_out h).h2, (bP_out h).h3⟩
theorem areaP_of {n : Nat} {I : Nat → Int} {ps : List PartD} {id : Int} {tg : List TagD} (h : bP (AokP n I id tg ps) = true) : (1 ≤ id ∧ id ≤ 1000000000) ∧ tagsB tg = true ∧ AreaP n I ps := ⟨idB_iff.1 (bP_out h).h1, (bP_out h).h2, (bP_out h).h3⟩

set_option maxRecDepth 100000 in
set_option maxHeartbeats 16000000 in
theorem specMapOk_any (v : Value) (m : MapD) (bs : List Nat) (w : World) (hV : MapV w v m bs) (hL : MapL m) :
  Calls Tryz.prog 17 #[v] w fun e w' => e = .returned (.bool (mapB m)) ∧ Bel w w' := by
 have hV' := hV
 obtain ⟨a0, c0, a1, c1, a2, c2, b0, b1, b2, rfl, _, t0, t1, t2⟩ := hV.out
 clear hV
 obtain ⟨l0, l1, l2, u0, u1, u2⟩ := hL
 have U0 : Hid _ := u0
 have U1 : Hid _ := u1
 have U2 : Hid _ := u2
 obtain ⟨n0, hn0⟩ : ∃ n, m.nodes.length = n := ⟨_, rfl⟩
 obtain ⟨n1, hn1⟩ : ∃ n, m.ways.length = n := ⟨_, rfl⟩
 obtain ⟨n2, hn2⟩ : ∃ n, m.areas.length = n := ⟨_, rfl⟩
 have E0 : Hid (m.nodes.length = n0) := hn0
 have E1 : Hid (m.ways.length = n1) := hn1
 have E2 : Hid (m.areas.length = n2) := hn2
 rw [hn0, hn1, hn2] at hV' ⊢
 rw [hn0] at l0
 rw [hn1] at l1
 rw [hn2] at l2
 clear hn0 hn1 hn2 u0 u1 u2
 by_cases hs : n0 ≤ 5000 ∧ n1 ≤ 1000 ∧ n2 ≤ 300
 ·obtain ⟨s0, s1, s2⟩ := hs
  have X : Blk (w.alloc (.cells #[.slice a0 n0 c0, .slice a1 n1 c1, .slice a2 n2 c2] 39)) w.heap.size [.slice a0 n0 c0, .slice a1 n1 c1, .slice a2 n2 c2] := Blk.new w [.slice a0 n0 c0, .slice a1 n1 c1, .slice a2 n2 c2] _
  have hB0 : Bel w (w.alloc (.cells #[.slice a0 n0 c0, .slice a1 n1 c1, .slice a2 n2 c2] 39)) := bel_alloc (Bel.refl _) _
  go_enter Tryz.func17, Tryz.ntmps17
  go_wp2
  obtain ⟨W, HW⟩ : ∃ W, Hid (W = w.alloc (.cells #[.slice a0 n0 c0, .slice a1 n1 c1, .slice a2 n2 c2] 39)) := ⟨_, (rfl : _ = _)⟩
  rw [← HW.out]
  rw [← HW.out] at X hB0
  clear HW
  have xx0 : W.cell? ⟨w.heap.size, 0, none⟩ = some (.slice a0 n0 c0) := X.cell 0 (by simp)
  go_loopw [3, 4] (fun i _ wr => ∃ k : Nat, k ≤ n0 ∧ i = .int .i64 k ∧ Hid (∀ j, j < k → prevI (nId m.nodes) j < nId m.nodes j ∧ nId m.nodes j ≤ 1000000000 ∧ nTg m.nodes j = true ∧ nPk m.nodes j = true) ∧ Bel W wr) (fun i _ _ => n0 - (intOf i).toNat)
  case atStart => exact ⟨0, Nat.zero_le _, rfl, (fun j hj => absurd hj (Nat.not_lt_zero _) : ∀ j, j < 0 → prevI (nId m.nodes) j < nId m.nodes j ∧ nId m.nodes j ≤ 1000000000 ∧ nTg m.nodes j = true ∧ nPk m.nodes j = true), Bel.refl _⟩
  case round =>
   obtain ⟨k, hk, rfl, H, hbel⟩ := hrel
   have hBr := bel_step hB0 hbel
   have Y := X.bel hbel
   have yy0 : wr.cell? ⟨w.heap.size, 0, none⟩ = some (.slice a0 n0 c0) := Y.cell 0 (by simp)
   by_cases hlt : k < n0
   ·have hkl : k < m.nodes.length := by rw [E0.out]; exact hlt
    obtain ⟨b, off, f, rfl, hb, hx⟩ := (t0.bel nodeE hBr).out hkl
    obtain ⟨_, _, _, d0, d1, d2, ta, tc, _, d3, tt⟩ := hx k hkl
    have htl := U0.out k hkl
    have HI : Hid (nId m.nodes k = m.nodes[k].id) := nId_at hkl
    have HT : Hid (nTg m.nodes k = tagsB m.nodes[k].tags) := nTg_at hkl
    have HP : Hid (nPk m.nodes k = pok m.nodes[k].x m.nodes[k].y) := nPk_at hkl
    have hVn : Blk (wr.alloc (.cells #[.int .i64 m.nodes[k].id, .int .i64 m.nodes[k].x, .int .i64 m.nodes[k].y, .slice ta m.nodes[k].tags.length tc] 102)) wr.heap.size [.int .i64 m.nodes[k].id, .int .i64 m.nodes[k].x, .int .i64 m.nodes[k].y, .slice ta m.nodes[k].tags.length tc] := Blk.new wr [.int .i64 m.nodes[k].id, .int .i64 m.nodes[k].x, .int .i64 m.nodes[k].y, .slice ta m.nodes[k].tags.length tc] _
    have hbV : Bel wr (wr.alloc (.cells #[.int .i64 m.nodes[k].id, .int .i64 m.nodes[k].x, .int .i64 m.nodes[k].y, .slice ta m.nodes[k].tags.length tc] 102)) := bel_alloc (Bel.refl _) _
    obtain ⟨V, HV⟩ : ∃ V, Hid (V = wr.alloc (.cells #[.int .i64 m.nodes[k].id, .int .i64 m.nodes[k].x, .int .i64 m.nodes[k].y, .slice ta m.nodes[k].tags.length tc] 102)) := ⟨_, (rfl : wr.alloc (.cells #[.int .i64 m.nodes[k].id, .int .i64 m.nodes[k].x, .int .i64 m.nodes[k].y, .slice ta m.nodes[k].tags.length tc] 102) = _)⟩
    rw [← HV.out] at hVn hbV
    have hBV := bel_step hBr hbV
    have tt' : ∀ w', Bel V w' → Tags w' ta m.nodes[k].tags (f k) := fun w' h => tt.bel2 (bel_step hbV h)
    have g0 : Bel V V := Bel.refl _
    have hlt' : (k : Int) < (n0 : Int) := by omega
    have hYV := Y.bel hbV
    cases h1 : idB m.nodes[k].id
    ·have HF : Hid (false = mapB m) := (bP_false fun h => by have h5 := h.an.pos k (by rw [E0.out]; exact hlt); have h6 := (h.an k (by rw [E0.out]; exact hlt)).2.1; rw [HI.out] at h5 h6; rw [idB_iff.2 ⟨h5, h6⟩] at h1; cases h1).symm
     have hR : ∀ w', Bel V w' → w'.cell? ⟨wr.heap.size, 0, none⟩ = some (.int .i64 m.nodes[k].id) ∧ w'.cell? ⟨wr.heap.size, 1, none⟩ = some (.int .i64 m.nodes[k].x) ∧ w'.cell? ⟨wr.heap.size, 2, none⟩ = some (.int .i64 m.nodes[k].y) ∧ w'.cell? ⟨wr.heap.size, 3, none⟩ = some (.slice ta m.nodes[k].tags.length tc) ∧ w'.cell? ⟨w.heap.size, 0, none⟩ = some (.slice (some ⟨b, off, none⟩) n0 c0) :=
      fun w' h => ⟨(hVn.bel h).cell 0 (by simp), (hVn.bel h).cell 1 (by simp), (hVn.bel h).cell 2 (by simp), (hVn.bel h).cell 3 (by simp), (hYV.bel h).cell 0 (by simp)⟩
     clear hx Y tt
     go_wp2
     rw [← HV.out]
     refine wp_region_noPanic ?_
     refine wp_region_held_drew (S := fun w' => Bel V w') (by kernel_rfl) (Bel.drew g0) (fun hHeld => ?_)
     refine tk 0 hHeld ?_; refine tk 1 hHeld ?_
     refine rd1 2 (fun K hK => ?_)
     go_simp
     refine (l2IdOk_to _ false _ h1).mono ?_
     rintro e w' ⟨rfl, hbk⟩
     go_wp2_with fail
     refine hK.out _ _ (bel_step hHeld hbk) ?_; clear hK K hHeld; intro hHeld
     try simp only [Act.put, List.setIfInBounds_toArray, List.set_cons_zero, List.set_cons_succ]
     refine tk 3 hHeld ?_; refine tk 4 hHeld ?_; refine sk 5 hHeld ?_; refine sk 6 hHeld ?_; refine sk 7 hHeld ?_; refine sk 8 hHeld ?_
     refine tk 9 hHeld ?_; refine tk 10 hHeld ?_; refine sk 11 hHeld ?_; refine sk 12 hHeld ?_; refine sk 13 hHeld ?_
     refine sk 14 hHeld ?_; refine tk 15 hHeld ?_; refine tk 16 hHeld ?_; refine sk 17 hHeld ?_; refine sk 18 hHeld ?_
     refine sk 19 hHeld ?_; refine sk 20 hHeld ?_; refine sk 21 hHeld ?_; refine sk 22 hHeld ?_; refine sk 23 hHeld ?_
     refine sk 24 hHeld ?_; refine sk 25 hHeld ?_; refine sk 26 hHeld ?_; refine sk 27 hHeld ?_; refine sk 28 hHeld ?_
     refine sk 29 hHeld ?_; refine sk 30 hHeld ?_; refine tk 31 hHeld ?_
     refine wpAnyH_done (by kernel_rfl) ?_ _
     refine NoPanic.normal ?_
     go_wp2
     go_ret
     exact ⟨ret_bl HF.out, bel_step hBV hHeld⟩
    cases h2 : pok m.nodes[k].x m.nodes[k].y
    ·have HF : Hid (false = mapB m) := (bP_false fun h => by have h5 := h.pl k (by rw [E0.out]; exact hlt); rw [HP.out, h2] at h5; cases h5).symm
     have hR : ∀ w', Bel V w' → w'.cell? ⟨wr.heap.size, 0, none⟩ = some (.int .i64 m.nodes[k].id) ∧ w'.cell? ⟨wr.heap.size, 1, none⟩ = some (.int .i64 m.nodes[k].x) ∧ w'.cell? ⟨wr.heap.size, 2, none⟩ = some (.int .i64 m.nodes[k].y) ∧ w'.cell? ⟨wr.heap.size, 3, none⟩ = some (.slice ta m.nodes[k].tags.length tc) ∧ w'.cell? ⟨w.heap.size, 0, none⟩ = some (.slice (some ⟨b, off, none⟩) n0 c0) :=
      fun w' h => ⟨(hVn.bel h).cell 0 (by simp), (hVn.bel h).cell 1 (by simp), (hVn.bel h).cell 2 (by simp), (hVn.bel h).cell 3 (by simp), (hYV.bel h).cell 0 (by simp)⟩
     clear hx Y tt
     go_wp2
     rw [← HV.out]
     refine wp_region_noPanic ?_
     refine wp_region_held_drew (S := fun w' => Bel V w') (by kernel_rfl) (Bel.drew g0) (fun hHeld => ?_)
     refine tk 0 hHeld ?_; refine tk 1 hHeld ?_
     refine rd1 2 (fun K hK => ?_)
     go_simp
     refine (l2IdOk_to _ true _ h1).mono ?_
     rintro e w' ⟨rfl, hbk⟩
     go_wp2_with fail
     refine hK.out _ _ (bel_step hHeld hbk) ?_; clear hK K hHeld; intro hHeld
     try simp only [Act.put, List.setIfInBounds_toArray, List.set_cons_zero, List.set_cons_succ]
     refine tk 3 hHeld ?_; refine tk 4 hHeld ?_; refine tk 5 hHeld ?_; refine tk 6 hHeld ?_
     refine rd1 7 (fun K hK => ?_)
     go_simp
     refine (specPointOk_to _ _ false _ h2).mono ?_
     rintro e w' ⟨rfl, hbk⟩
     go_wp2_with fail
     refine hK.out _ _ (bel_step hHeld hbk) ?_; clear hK K hHeld; intro hHeld
     try simp only [Act.put, List.setIfInBounds_toArray, List.set_cons_zero, List.set_cons_succ]
     refine tk 8 hHeld ?_; refine tk 9 hHeld ?_; refine tk 10 hHeld ?_; refine sk 11 hHeld ?_; refine sk 12 hHeld ?_
     refine sk 13 hHeld ?_; refine sk 14 hHeld ?_; refine tk 15 hHeld ?_; refine tk 16 hHeld ?_; refine sk 17 hHeld ?_
     refine sk 18 hHeld ?_; refine sk 19 hHeld ?_; refine sk 20 hHeld ?_; refine sk 21 hHeld ?_; refine sk 22 hHeld ?_
     refine sk 23 hHeld ?_; refine sk 24 hHeld ?_; refine sk 25 hHeld ?_; refine sk 26 hHeld ?_; refine sk 27 hHeld ?_
     refine sk 28 hHeld ?_; refine sk 29 hHeld ?_; refine sk 30 hHeld ?_; refine tk 31 hHeld ?_
     refine wpAnyH_done (by kernel_rfl) ?_ _
     refine NoPanic.normal ?_
     go_wp2
     go_ret
     exact ⟨ret_bl HF.out, bel_step hBV hHeld⟩
    cases h3 : tagsB m.nodes[k].tags
    ·have HF : Hid (false = mapB m) := (bP_false fun h => by have h5 := (h.an k (by rw [E0.out]; exact hlt)).2.2; rw [HT.out, h3] at h5; cases h5).symm
     have hR : ∀ w', Bel V w' → w'.cell? ⟨wr.heap.size, 0, none⟩ = some (.int .i64 m.nodes[k].id) ∧ w'.cell? ⟨wr.heap.size, 1, none⟩ = some (.int .i64 m.nodes[k].x) ∧ w'.cell? ⟨wr.heap.size, 2, none⟩ = some (.int .i64 m.nodes[k].y) ∧ w'.cell? ⟨wr.heap.size, 3, none⟩ = some (.slice ta m.nodes[k].tags.length tc) ∧ w'.cell? ⟨w.heap.size, 0, none⟩ = some (.slice (some ⟨b, off, none⟩) n0 c0) :=
      fun w' h => ⟨(hVn.bel h).cell 0 (by simp), (hVn.bel h).cell 1 (by simp), (hVn.bel h).cell 2 (by simp), (hVn.bel h).cell 3 (by simp), (hYV.bel h).cell 0 (by simp)⟩
     clear hx Y tt
     go_wp2
     rw [← HV.out]
     refine wp_region_noPanic ?_
     refine wp_region_held_drew (S := fun w' => Bel V w') (by kernel_rfl) (Bel.drew g0) (fun hHeld => ?_)
     refine tk 0 hHeld ?_; refine tk 1 hHeld ?_
     refine rd1 2 (fun K hK => ?_)
     go_simp
     refine (l2IdOk_to _ true _ h1).mono ?_
     rintro e w' ⟨rfl, hbk⟩
     go_wp2_with fail
     refine hK.out _ _ (bel_step hHeld hbk) ?_; clear hK K hHeld; intro hHeld
     try simp only [Act.put, List.setIfInBounds_toArray, List.set_cons_zero, List.set_cons_succ]
     refine tk 3 hHeld ?_; refine tk 4 hHeld ?_; refine tk 5 hHeld ?_; refine tk 6 hHeld ?_
     refine rd1 7 (fun K hK => ?_)
     go_simp
     refine (specPointOk_to _ _ true _ h2).mono ?_
     rintro e w' ⟨rfl, hbk⟩
     go_wp2_with fail
     refine hK.out _ _ (bel_step hHeld hbk) ?_; clear hK K hHeld; intro hHeld
     try simp only [Act.put, List.setIfInBounds_toArray, List.set_cons_zero, List.set_cons_succ]
     refine tk 8 hHeld ?_; refine tk 9 hHeld ?_; refine tk 10 hHeld ?_; refine tk 11 hHeld ?_; refine tk 12 hHeld ?_
     refine rd1 13 (fun K hK => ?_)
     go_simp
     refine (specTagsOk_to _ _ _ m.nodes[k].tags _ false _ h3 (tt' _ hHeld) rfl htl).mono ?_
     rintro e w' ⟨rfl, hbk⟩
     go_wp2_with fail
     refine hK.out _ _ (bel_step hHeld hbk) ?_; clear hK K hHeld; intro hHeld
     try simp only [Act.put, List.setIfInBounds_toArray, List.set_cons_zero, List.set_cons_succ]
     refine tk 14 hHeld ?_; refine tk 15 hHeld ?_; refine tk 16 hHeld ?_; refine sk 17 hHeld ?_; refine sk 18 hHeld ?_
     refine sk 19 hHeld ?_; refine sk 20 hHeld ?_; refine sk 21 hHeld ?_; refine sk 22 hHeld ?_; refine sk 23 hHeld ?_
     refine sk 24 hHeld ?_; refine sk 25 hHeld ?_; refine sk 26 hHeld ?_; refine sk 27 hHeld ?_; refine sk 28 hHeld ?_
     refine sk 29 hHeld ?_; refine sk 30 hHeld ?_; refine tk 31 hHeld ?_
     refine wpAnyH_done (by kernel_rfl) ?_ _
     refine NoPanic.normal ?_
     go_wp2
     go_ret
     exact ⟨ret_bl HF.out, bel_step hBV hHeld⟩
    rcases k with _ | j
    ·have HA : Hid (prevI (nId m.nodes) 0 < nId m.nodes 0 ∧ nId m.nodes 0 ≤ 1000000000 ∧ nTg m.nodes 0 = true ∧ nPk m.nodes 0 = true) := by
      rw [HI.out, HT.out, HP.out]
      have := idB_iff.1 h1
      exact ⟨by simp only [prevI]; omega, this.2, h3, h2⟩
     have hR : ∀ w', Bel V w' → w'.cell? ⟨wr.heap.size, 0, none⟩ = some (.int .i64 m.nodes[0].id) ∧ w'.cell? ⟨wr.heap.size, 1, none⟩ = some (.int .i64 m.nodes[0].x) ∧ w'.cell? ⟨wr.heap.size, 2, none⟩ = some (.int .i64 m.nodes[0].y) ∧ w'.cell? ⟨wr.heap.size, 3, none⟩ = some (.slice ta m.nodes[0].tags.length tc) ∧ w'.cell? ⟨w.heap.size, 0, none⟩ = some (.slice (some ⟨b, off, none⟩) n0 c0) :=
      fun w' h => ⟨(hVn.bel h).cell 0 (by simp), (hVn.bel h).cell 1 (by simp), (hVn.bel h).cell 2 (by simp), (hVn.bel h).cell 3 (by simp), (hYV.bel h).cell 0 (by simp)⟩
     clear hx Y tt
     simp only [Nat.zero_mul, Nat.add_zero] at d0 d1 d2 d3
     go_wp2
     rw [← HV.out]
     refine wp_region_noPanic ?_
     refine wp_region_held_drew (S := fun w' => Bel V w') (by kernel_rfl) (Bel.drew g0) (fun hHeld => ?_)
     refine tk 0 hHeld ?_; refine tk 1 hHeld ?_
     refine rd1 2 (fun K hK => ?_)
     go_simp
     refine (l2IdOk_to _ true _ h1).mono ?_
     rintro e w' ⟨rfl, hbk⟩
     go_wp2_with fail
     refine hK.out _ _ (bel_step hHeld hbk) ?_; clear hK K hHeld; intro hHeld
     try simp only [Act.put, List.setIfInBounds_toArray, List.set_cons_zero, List.set_cons_succ]
     refine tk 3 hHeld ?_; refine tk 4 hHeld ?_; refine tk 5 hHeld ?_; refine tk 6 hHeld ?_
     refine rd1 7 (fun K hK => ?_)
     go_simp
     refine (specPointOk_to _ _ true _ h2).mono ?_
     rintro e w' ⟨rfl, hbk⟩
     go_wp2_with fail
     refine hK.out _ _ (bel_step hHeld hbk) ?_; clear hK K hHeld; intro hHeld
     try simp only [Act.put, List.setIfInBounds_toArray, List.set_cons_zero, List.set_cons_succ]
     refine tk 8 hHeld ?_; refine tk 9 hHeld ?_; refine tk 10 hHeld ?_; refine tk 11 hHeld ?_; refine tk 12 hHeld ?_
     refine rd1 13 (fun K hK => ?_)
     go_simp
     refine (specTagsOk_to _ _ _ m.nodes[0].tags _ true _ h3 (tt' _ hHeld) rfl htl).mono ?_
     rintro e w' ⟨rfl, hbk⟩
     go_wp2_with fail
     refine hK.out _ _ (bel_step hHeld hbk) ?_; clear hK K hHeld; intro hHeld
     try simp only [Act.put, List.setIfInBounds_toArray, List.set_cons_zero, List.set_cons_succ]
     refine tk 14 hHeld ?_; refine tk 15 hHeld ?_; refine tk 16 hHeld ?_; refine tk 17 hHeld ?_; refine tk 18 hHeld ?_
     refine tk 19 hHeld ?_; refine sk 20 hHeld ?_; refine sk 21 hHeld ?_; refine sk 22 hHeld ?_; refine sk 23 hHeld ?_
     refine sk 24 hHeld ?_; refine sk 25 hHeld ?_; refine sk 26 hHeld ?_; refine sk 27 hHeld ?_; refine sk 28 hHeld ?_
     refine sk 29 hHeld ?_; refine tk 30 hHeld ?_; refine tk 31 hHeld ?_
     refine wpAnyH_done (by kernel_rfl) ?_ _
     refine NoPanic.normal ?_
     go_wp2
     go_roundw
     case rel => exact ⟨1, by omega, by go_num, (fun j hj => by obtain rfl : j = 0 := (by omega); exact HA.out : ∀ j, j < 1 → prevI (nId m.nodes) j < nId m.nodes j ∧ nId m.nodes j ≤ 1000000000 ∧ nTg m.nodes j = true ∧ nPk m.nodes j = true), bel_step (bel_step hbel hbV) hHeld⟩
     case measure => simp [intOf]; omega
    ·obtain ⟨_, _, _, p0, _⟩ := hx j (by omega)
     rw [← nId_at (show j < m.nodes.length by omega)] at p0
     obtain ⟨y, Hy⟩ : ∃ y, Hid (y = nId m.nodes j) := ⟨_, (rfl : nId m.nodes j = _)⟩
     rw [← Hy.out] at p0
     have hltj : (j : Int) < (n0 : Int) := by omega
     have hj1 : IntKind.i64.wrap (j : Int) = j := by rw [IntKind.wrap_i64]; omega
     have hltk : (j : Int) + 1 < (n0 : Int) := by omega
     have hj0 : (0 : Int) ≤ (j : Int) := by omega
     have hj2 : (0 : Int) ≤ (j : Int) + 1 := by omega
     have hj3 : (0 : Int) < (j : Int) + 1 := by omega
     have htn : ((j : Int) + 1).toNat = j + 1 := by omega
     have hR : ∀ w', Bel V w' → w'.cell? ⟨wr.heap.size, 0, none⟩ = some (.int .i64 m.nodes[j + 1].id) ∧ w'.cell? ⟨wr.heap.size, 1, none⟩ = some (.int .i64 m.nodes[j + 1].x) ∧ w'.cell? ⟨wr.heap.size, 2, none⟩ = some (.int .i64 m.nodes[j + 1].y) ∧ w'.cell? ⟨wr.heap.size, 3, none⟩ = some (.slice ta m.nodes[j + 1].tags.length tc) ∧ w'.cell? ⟨w.heap.size, 0, none⟩ = some (.slice (some ⟨b, off, none⟩) n0 c0) ∧ w'.cell? ⟨b, off + j * 4, none⟩ = some (.int .i64 y) :=
      fun w' h => ⟨(hVn.bel h).cell 0 (by simp), (hVn.bel h).cell 1 (by simp), (hVn.bel h).cell 2 (by simp), (hVn.bel h).cell 3 (by simp), (hYV.bel h).cell 0 (by simp), bel_cellM h (bel_lt hbV hb) (bel_cellM hbV hb p0)⟩
     by_cases hyx : y < m.nodes[j + 1].id
     ·have HA : Hid (prevI (nId m.nodes) (j + 1) < nId m.nodes (j + 1) ∧ nId m.nodes (j + 1) ≤ 1000000000 ∧ nTg m.nodes (j + 1) = true ∧ nPk m.nodes (j + 1) = true) := by
       rw [HI.out, HT.out, HP.out]
       exact ⟨by simp only [prevI]; rw [← Hy.out]; exact hyx, (idB_iff.1 h1).2, h3, h2⟩
      clear hx Y tt p0
      go_wp2
      rw [← HV.out]
      go_region_held3 (fun w' => Bel V w') (with_reducible (repeat (first | assumption | exact g0 | refine Bel.drew ?_ | refine bel_then (by assumption) ?_)))
       (first
        | (go_at_call 42; refine (l2IdOk_to _ true _ h1).mono ?_; rintro e w' ⟨rfl, hbk⟩)
        | (go_at_call 43; refine (specPointOk_to _ _ true _ h2).mono ?_; rintro e w' ⟨rfl, hbk⟩)
        | (go_at_call 44; refine (specTagsOk_to _ _ _ m.nodes[j + 1].tags _ true _ h3 (tt' _ (by assumption)) rfl htl).mono ?_; rintro e w' ⟨rfl, hbk⟩))
      have hH : Bel V w' := by assumption
      go_wp2
      go_roundw
      case rel => exact ⟨j + 2, by omega, by go_num, (fun i hi => by
        by_cases e : i = j + 1
        ·subst e; exact HA.out
        ·exact H.out i (by omega) : ∀ i, i < j + 2 → prevI (nId m.nodes) i < nId m.nodes i ∧ nId m.nodes i ≤ 1000000000 ∧ nTg m.nodes i = true ∧ nPk m.nodes i = true), bel_step (bel_step hbel hbV) hH⟩
      case measure => simp [intOf]; omega
     ·have HF : Hid (false = mapB m) := (bP_false fun h => by have h5 := (h.an (j + 1) (by rw [E0.out]; exact hlt)).1; rw [HI.out] at h5; simp only [prevI] at h5; rw [← Hy.out] at h5; exact hyx h5).symm
      clear hx Y tt p0
      go_wp2
      rw [← HV.out]
      go_region_held3 (fun w' => Bel V w') (with_reducible (repeat (first | assumption | exact g0 | refine Bel.drew ?_ | refine bel_then (by assumption) ?_)))
       (first
        | (go_at_call 42; refine (l2IdOk_to _ true _ h1).mono ?_; rintro e w' ⟨rfl, hbk⟩)
        | (go_at_call 43; refine (specPointOk_to _ _ true _ h2).mono ?_; rintro e w' ⟨rfl, hbk⟩)
        | (go_at_call 44; refine (specTagsOk_to _ _ _ m.nodes[j + 1].tags _ true _ h3 (tt' _ (by assumption)) rfl htl).mono ?_; rintro e w' ⟨rfl, hbk⟩))
      have hH : Bel V w' := by assumption
      go_wp2
      go_ret
      exact ⟨ret_bl HF.out, bel_step hBV hH⟩
   ·have e : n0 = k := by omega
    subst e
    have AN : Hid (AscP m.nodes.length (nId m.nodes) (nTg m.nodes)) := (fun i hi => by have := H.out i (by rw [E0.out] at hi; exact hi); exact ⟨this.1, this.2.1, this.2.2.1⟩ : AscP m.nodes.length (nId m.nodes) (nTg m.nodes))
    have PL : Hid (∀ i, i < m.nodes.length → nPk m.nodes i = true) := (fun i hi => (H.out i (by rw [E0.out] at hi; exact hi)).2.2.2 : ∀ i, i < m.nodes.length → nPk m.nodes i = true)
    clear H
    have xy1 : wr.cell? ⟨w.heap.size, 1, none⟩ = some (.slice a1 n1 c1) := Y.cell 1 (by simp)
    go_wp2
    go_loopw [5] (fun i wr => ∃ k : Nat, k ≤ n1 ∧ i = .int .i64 k ∧ Hid (∀ j (h : j < m.ways.length), j < k → prevI (wId m.ways) j < wId m.ways j ∧ wId m.ways j ≤ 1000000000 ∧ wTg m.ways j = true ∧ WayP m.nodes.length (nId m.nodes) m.ways[j].nodes) ∧ Bel W wr) (fun i _ => n1 - (intOf i).toNat)
    case atStart => exact ⟨0, Nat.zero_le _, rfl, (fun j _ hj => absurd hj (Nat.not_lt_zero _) : ∀ j (h : j < m.ways.length), j < 0 → prevI (wId m.ways) j < wId m.ways j ∧ wId m.ways j ≤ 1000000000 ∧ wTg m.ways j = true ∧ WayP m.nodes.length (nId m.nodes) m.ways[j].nodes), hbel⟩
    case round =>
     obtain ⟨k, hk, rfl, H, hbel'⟩ := hrel
     have hBr' := bel_step hB0 hbel'
     have Y := X.bel hbel'
     have yy0 : wr.cell? ⟨w.heap.size, 1, none⟩ = some (.slice a1 n1 c1) := Y.cell 1 (by simp)
     by_cases hlt : k < n1
     ·have hkl : k < m.ways.length := by rw [E1.out]; exact hlt
      obtain ⟨b, off, f, rfl, hb, hx⟩ := (t1.bel wayE hBr').out hkl
      obtain ⟨_, d0, pa, pc, ta, tc, f1, f2, _, _, _, d1, tp, d2, tt⟩ := hx k hkl
      have htl := U1.out k hkl
      have HI : Hid (wId m.ways k = m.ways[k].id) := wId_at hkl
      have HT : Hid (wTg m.ways k = tagsB m.ways[k].tags) := wTg_at hkl
      have g0 : Bel wr wr := Bel.refl _
      have hlt' : (k : Int) < (n1 : Int) := by omega
      have hMV : ∀ w', Bel wr w' → MapV w' (.agg #[.slice a0 n0 c0, .slice (some ⟨b, off, none⟩) n1 c1, .slice a2 n2 c2]) m bs := fun w' h => hV'.bel (bel_step hBr' h)
      have tp' : ∀ w', Bel wr w' → Ints w' pa m.ways[k].nodes f1 := fun w' h => tp.bel intE h
      have tt' : ∀ w', Bel wr w' → Tags w' ta m.ways[k].tags f2 := fun w' h => tt.bel2 h
      have hC : ∀ (r : Bool) w', bP (WokP m.nodes.length (nId m.nodes) m.ways[k].id m.ways[k].tags m.ways[k].nodes) = r → Bel wr w' → Calls Tryz.prog 45 #[.agg #[.slice a0 n0 c0, .slice (some ⟨b, off, none⟩) n1 c1, .slice a2 n2 c2], .agg #[.int .i64 m.ways[k].id, .slice pa m.ways[k].nodes.length pc, .slice ta m.ways[k].tags.length tc]] w' fun e w'' => e = .returned (.bool r) ∧ Bel w' w'' :=
       fun r w' hr h => (l2WayOk_any _ m bs _ _ _ _ m.ways[k].nodes f1 _ _ _ m.ways[k].tags f2 _ (hMV w' h) (by rw [E0.out]; omega) AN.out (tp' w' h) rfl htl.1 (tt' w' h) rfl htl.2).mono fun e w'' ⟨h1, h2⟩ => ⟨by rw [h1, hr], h2⟩
      have HC : Hid _ := hC
      clear hC tp' tt' hMV
      cases h1 : bP (WokP m.nodes.length (nId m.nodes) m.ways[k].id m.ways[k].tags m.ways[k].nodes)
      ·have HF : Hid (false = mapB m) := (bP_false fun h => bP_not h1 ⟨by
         have h5 := h.aw.pos k (by rw [E1.out]; exact hlt)
         have h6 := (h.aw k (by rw [E1.out]; exact hlt)).2.1
         rw [HI.out] at h5 h6
         exact idB_iff.2 ⟨h5, h6⟩, by have h5 := (h.aw k (by rw [E1.out]; exact hlt)).2.2; rw [HT.out] at h5; exact h5, h.wy k hkl⟩).symm
       have hR : ∀ w', Bel wr w' → w'.cell? ⟨w.heap.size, 0, none⟩ = some (.slice a0 n0 c0) ∧ w'.cell? ⟨w.heap.size, 1, none⟩ = some (.slice (some ⟨b, off, none⟩) n1 c1) ∧ w'.cell? ⟨w.heap.size, 2, none⟩ = some (.slice a2 n2 c2) ∧ w'.cell? ⟨b, off + k * 3, none⟩ = some (.int .i64 m.ways[k].id) ∧ w'.cell? ⟨b, off + k * 3 + 1, none⟩ = some (.slice pa m.ways[k].nodes.length pc) ∧ w'.cell? ⟨b, off + k * 3 + 2, none⟩ = some (.slice ta m.ways[k].tags.length tc) :=
        fun w' h => ⟨(Y.bel h).cell 0 (by simp), (Y.bel h).cell 1 (by simp), (Y.bel h).cell 2 (by simp), bel_cellM h hb d0, bel_cellM h hb d1, bel_cellM h hb d2⟩
       clear hx Y tt tp
       go_wp2
       refine wp_region_noPanic ?_
       refine wp_region_held_drew (S := fun w' => Bel wr w') (by kernel_rfl) (Bel.drew g0) (fun hHeld => ?_)
       refine tk 0 hHeld ?_; refine tk 1 hHeld ?_; refine tk 2 hHeld ?_; refine tk 3 hHeld ?_; refine tk 4 hHeld ?_; refine tk 5 hHeld ?_
       refine rd1 6 (fun K hK => ?_)
       go_simp
       refine (HC.out false _ h1 hHeld).mono ?_
       rintro e w' ⟨rfl, hbk⟩
       go_wp2_with fail
       refine hK.out _ _ (bel_step hHeld hbk) ?_; clear hK K hHeld; intro hHeld
       try simp only [Act.put, List.setIfInBounds_toArray, List.set_cons_zero, List.set_cons_succ]
       refine tk 7 hHeld ?_; refine tk 8 hHeld ?_; refine sk 9 hHeld ?_; refine sk 10 hHeld ?_; refine sk 11 hHeld ?_
       refine sk 12 hHeld ?_; refine sk 13 hHeld ?_; refine sk 14 hHeld ?_; refine sk 15 hHeld ?_; refine sk 16 hHeld ?_
       refine sk 17 hHeld ?_; refine sk 18 hHeld ?_; refine sk 19 hHeld ?_; refine sk 20 hHeld ?_; refine sk 21 hHeld ?_
       refine sk 22 hHeld ?_; refine sk 23 hHeld ?_; refine sk 24 hHeld ?_; refine sk 25 hHeld ?_; refine sk 26 hHeld ?_
       refine tk 27 hHeld ?_
       refine wpAnyH_done (by kernel_rfl) ?_ _
       refine NoPanic.normal ?_
       go_wp2
       go_ret
       exact ⟨ret_bl HF.out, bel_step hBr' hHeld⟩
      obtain ⟨q1, q2, q3⟩ := wayP_of h1
      have Q1 : Hid _ := q1
      have Q3 : Hid _ := q3
      clear q1 q3
      rcases k with _ | j
      ·have HA : Hid (prevI (wId m.ways) 0 < wId m.ways 0 ∧ wId m.ways 0 ≤ 1000000000 ∧ wTg m.ways 0 = true ∧ WayP m.nodes.length (nId m.nodes) m.ways[0].nodes) := by
        rw [HI.out, HT.out]
        have := Q1.out
        exact ⟨by simp only [prevI]; omega, this.2, q2, Q3.out⟩
       have hR : ∀ w', Bel wr w' → w'.cell? ⟨w.heap.size, 0, none⟩ = some (.slice a0 n0 c0) ∧ w'.cell? ⟨w.heap.size, 1, none⟩ = some (.slice (some ⟨b, off, none⟩) n1 c1) ∧ w'.cell? ⟨w.heap.size, 2, none⟩ = some (.slice a2 n2 c2) ∧ w'.cell? ⟨b, off, none⟩ = some (.int .i64 m.ways[0].id) ∧ w'.cell? ⟨b, off + 1, none⟩ = some (.slice pa m.ways[0].nodes.length pc) ∧ w'.cell? ⟨b, off + 2, none⟩ = some (.slice ta m.ways[0].tags.length tc) :=
        fun w' h => ⟨(Y.bel h).cell 0 (by simp), (Y.bel h).cell 1 (by simp), (Y.bel h).cell 2 (by simp), bel_cellM h hb (by simpa using d0), bel_cellM h hb (by simpa using d1), bel_cellM h hb (by simpa using d2)⟩
       clear hx Y tt tp
       go_wp2
       refine wp_region_noPanic ?_
       refine wp_region_held_drew (S := fun w' => Bel wr w') (by kernel_rfl) (Bel.drew g0) (fun hHeld => ?_)
       refine tk 0 hHeld ?_; refine tk 1 hHeld ?_; refine tk 2 hHeld ?_; refine tk 3 hHeld ?_; refine tk 4 hHeld ?_; refine tk 5 hHeld ?_
       refine rd1 6 (fun K hK => ?_)
       go_simp
       refine (HC.out true _ h1 hHeld).mono ?_
       rintro e w' ⟨rfl, hbk⟩
       go_wp2_with fail
       refine hK.out _ _ (bel_step hHeld hbk) ?_; clear hK K hHeld; intro hHeld
       try simp only [Act.put, List.setIfInBounds_toArray, List.set_cons_zero, List.set_cons_succ]
       refine tk 7 hHeld ?_; refine tk 8 hHeld ?_; refine tk 9 hHeld ?_; refine tk 10 hHeld ?_; refine tk 11 hHeld ?_
       refine sk 12 hHeld ?_; refine sk 13 hHeld ?_; refine sk 14 hHeld ?_; refine sk 15 hHeld ?_; refine sk 16 hHeld ?_
       refine sk 17 hHeld ?_; refine sk 18 hHeld ?_; refine sk 19 hHeld ?_; refine sk 20 hHeld ?_; refine sk 21 hHeld ?_
       refine sk 22 hHeld ?_; refine sk 23 hHeld ?_; refine sk 24 hHeld ?_; refine sk 25 hHeld ?_; refine tk 26 hHeld ?_
       refine tk 27 hHeld ?_
       refine wpAnyH_done (by kernel_rfl) ?_ _
       refine NoPanic.normal ?_
       go_wp2
       go_roundw
       case rel => exact ⟨1, by omega, by go_num, (fun j h hj => by obtain rfl : j = 0 := (by omega); exact HA.out : ∀ j (h : j < m.ways.length), j < 1 → prevI (wId m.ways) j < wId m.ways j ∧ wId m.ways j ≤ 1000000000 ∧ wTg m.ways j = true ∧ WayP m.nodes.length (nId m.nodes) m.ways[j].nodes), bel_step hbel' hHeld⟩
       case measure => simp [intOf]; omega
      ·obtain ⟨_, p0, _⟩ := hx j (by omega)
       rw [← wId_at (show j < m.ways.length by omega)] at p0
       obtain ⟨y, Hy⟩ : ∃ y, Hid (y = wId m.ways j) := ⟨_, (rfl : wId m.ways j = _)⟩
       rw [← Hy.out] at p0
       have hltj : (j : Int) < (n1 : Int) := by omega
       have hj1 : IntKind.i64.wrap (j : Int) = j := by rw [IntKind.wrap_i64]; omega
       have hltk : (j : Int) + 1 < (n1 : Int) := by omega
       have hj0 : (0 : Int) ≤ (j : Int) := by omega
       have hj2 : (0 : Int) ≤ (j : Int) + 1 := by omega
       have hj3 : (0 : Int) < (j : Int) + 1 := by omega
       have htn : ((j : Int) + 1).toNat = j + 1 := by omega
       have hR : ∀ w', Bel wr w' → w'.cell? ⟨w.heap.size, 0, none⟩ = some (.slice a0 n0 c0) ∧ w'.cell? ⟨w.heap.size, 1, none⟩ = some (.slice (some ⟨b, off, none⟩) n1 c1) ∧ w'.cell? ⟨w.heap.size, 2, none⟩ = some (.slice a2 n2 c2) ∧ w'.cell? ⟨b, off + (j + 1) * 3, none⟩ = some (.int .i64 m.ways[j + 1].id) ∧ w'.cell? ⟨b, off + (j + 1) * 3 + 1, none⟩ = some (.slice pa m.ways[j + 1].nodes.length pc) ∧ w'.cell? ⟨b, off + (j + 1) * 3 + 2, none⟩ = some (.slice ta m.ways[j + 1].tags.length tc) ∧ w'.cell? ⟨b, off + j * 3, none⟩ = some (.int .i64 y) :=
        fun w' h => ⟨(Y.bel h).cell 0 (by simp), (Y.bel h).cell 1 (by simp), (Y.bel h).cell 2 (by simp), bel_cellM h hb d0, bel_cellM h hb d1, bel_cellM h hb d2, bel_cellM h hb p0⟩
       by_cases hyx : y < m.ways[j + 1].id
       ·have HA : Hid (prevI (wId m.ways) (j + 1) < wId m.ways (j + 1) ∧ wId m.ways (j + 1) ≤ 1000000000 ∧ wTg m.ways (j + 1) = true ∧ WayP m.nodes.length (nId m.nodes) m.ways[j + 1].nodes) := by
         rw [HI.out, HT.out]
         exact ⟨by simp only [prevI]; rw [← Hy.out]; exact hyx, Q1.out.2, q2, Q3.out⟩
        clear hx Y tt tp p0
        go_wp2
        go_region_held3 (fun w' => Bel wr w') (with_reducible (repeat (first | assumption | exact g0 | refine Bel.drew ?_ | refine bel_then (by assumption) ?_)))
         (first
          | (go_at_call 45; refine (HC.out true _ h1 (by assumption)).mono ?_; rintro e w' ⟨rfl, hbk⟩))
        have hH : Bel wr w' := by assumption
        go_wp2
        go_roundw
        case rel => exact ⟨j + 2, by omega, by go_num, (fun i h hi => by
          by_cases e : i = j + 1
          ·subst e; exact HA.out
          ·exact H.out i h (by omega) : ∀ j_1 (h : j_1 < m.ways.length), j_1 < j + 2 → prevI (wId m.ways) j_1 < wId m.ways j_1 ∧ wId m.ways j_1 ≤ 1000000000 ∧ wTg m.ways j_1 = true ∧ WayP m.nodes.length (nId m.nodes) m.ways[j_1].nodes), bel_step hbel' hH⟩
        case measure => simp [intOf]; omega
       ·have HF : Hid (false = mapB m) := (bP_false fun h => by have h5 := (h.aw (j + 1) (by rw [E1.out]; exact hlt)).1; rw [HI.out] at h5; simp only [prevI] at h5; rw [← Hy.out] at h5; exact hyx h5).symm
        clear hx Y tt tp p0
        go_wp2
        go_region_held3 (fun w' => Bel wr w') (with_reducible (repeat (first | assumption | exact g0 | refine Bel.drew ?_ | refine bel_then (by assumption) ?_)))
         (first
          | (go_at_call 45; refine (HC.out true _ h1 (by assumption)).mono ?_; rintro e w' ⟨rfl, hbk⟩))
        have hH : Bel wr w' := by assumption
        go_wp2
        go_ret
        exact ⟨ret_bl HF.out, bel_step hBr' hH⟩
     ·have e : n1 = k := by omega
      subst e
      have AW : Hid (AscP m.ways.length (wId m.ways) (wTg m.ways)) := (fun i hi => by have := H.out i hi (by rw [E1.out] at hi; exact hi); exact ⟨this.1, this.2.1, this.2.2.1⟩ : AscP m.ways.length (wId m.ways) (wTg m.ways))
      have WY : Hid (∀ i (h : i < m.ways.length), WayP m.nodes.length (nId m.nodes) m.ways[i].nodes) := (fun i hi => (H.out i hi (by rw [E1.out] at hi; exact hi)).2.2.2 : ∀ i (h : i < m.ways.length), WayP m.nodes.length (nId m.nodes) m.ways[i].nodes)
      clear H
      have xy2 : wr.cell? ⟨w.heap.size, 2, none⟩ = some (.slice a2 n2 c2) := Y.cell 2 (by simp)
      go_wp2
      have hbel := hbel'
      go_loopw [6] (fun i wr => ∃ k : Nat, k ≤ n2 ∧ i = .int .i64 k ∧ Hid (∀ j (h : j < m.areas.length), j < k → prevI (aId m.areas) j < aId m.areas j ∧ aId m.areas j ≤ 1000000000 ∧ aTg m.areas j = true ∧ AreaP m.ways.length (wId m.ways) m.areas[j].parts) ∧ Bel W wr) (fun i _ => n2 - (intOf i).toNat)
      case atStart => exact ⟨0, Nat.zero_le _, rfl, (fun j _ hj => absurd hj (Nat.not_lt_zero _) : ∀ j (h : j < m.areas.length), j < 0 → prevI (aId m.areas) j < aId m.areas j ∧ aId m.areas j ≤ 1000000000 ∧ aTg m.areas j = true ∧ AreaP m.ways.length (wId m.ways) m.areas[j].parts), hbel⟩
      case round =>
       obtain ⟨k, hk, rfl, H, hbel'⟩ := hrel
       have hBr' := bel_step hB0 hbel'
       have Y := X.bel hbel'
       have yy0 : wr.cell? ⟨w.heap.size, 2, none⟩ = some (.slice a2 n2 c2) := Y.cell 2 (by simp)
       by_cases hlt : k < n2
       ·have hkl : k < m.areas.length := by rw [E2.out]; exact hlt
        obtain ⟨b, off, f, rfl, hb, hx⟩ := (t2.bel areaE hBr').out hkl
        obtain ⟨_, d0, pa, pc, ta, tc, f1, f2, _, _, _, d1, tp, d2, tt⟩ := hx k hkl
        have htl := U2.out k hkl
        have HI : Hid (aId m.areas k = m.areas[k].id) := aId_at hkl
        have HT : Hid (aTg m.areas k = tagsB m.areas[k].tags) := aTg_at hkl
        have g0 : Bel wr wr := Bel.refl _
        have hlt' : (k : Int) < (n2 : Int) := by omega
        have hMV : ∀ w', Bel wr w' → MapV w' (.agg #[.slice a0 n0 c0, .slice a1 n1 c1, .slice (some ⟨b, off, none⟩) n2 c2]) m bs := fun w' h => hV'.bel (bel_step hBr' h)
        have tp' : ∀ w', Bel wr w' → Parts w' pa m.areas[k].parts f1 := fun w' h => tp.bel partE h
        have tt' : ∀ w', Bel wr w' → Tags w' ta m.areas[k].tags f2 := fun w' h => tt.bel2 h
        have hC : ∀ (r : Bool) w', bP (AokP m.ways.length (wId m.ways) m.areas[k].id m.areas[k].tags m.areas[k].parts) = r → Bel wr w' → Calls Tryz.prog 46 #[.agg #[.slice a0 n0 c0, .slice a1 n1 c1, .slice (some ⟨b, off, none⟩) n2 c2], .agg #[.int .i64 m.areas[k].id, .slice pa m.areas[k].parts.length pc, .slice ta m.areas[k].tags.length tc]] w' fun e w'' => e = .returned (.bool r) ∧ Bel w' w'' :=
         fun r w' hr h => (l2AreaOk_any _ m bs _ _ _ _ m.areas[k].parts f1 _ _ _ m.areas[k].tags f2 _ (hMV w' h) (by rw [E1.out]; omega) AW.out (tp' w' h) rfl htl.1 (tt' w' h) rfl htl.2).mono fun e w'' ⟨h1, h2⟩ => ⟨by rw [h1, hr], h2⟩
        have HC : Hid _ := hC
        clear hC tp' tt' hMV
        cases h1 : bP (AokP m.ways.length (wId m.ways) m.areas[k].id m.areas[k].tags m.areas[k].parts)
        ·have HF : Hid (false = mapB m) := (bP_false fun h => bP_not h1 ⟨by
           have h5 := h.aa.pos k (by rw [E2.out]; exact hlt)
           have h6 := (h.aa k (by rw [E2.out]; exact hlt)).2.1
           rw [HI.out] at h5 h6
           exact idB_iff.2 ⟨h5, h6⟩, by have h5 := (h.aa k (by rw [E2.out]; exact hlt)).2.2; rw [HT.out] at h5; exact h5, h.ar k hkl⟩).symm
         have hR : ∀ w', Bel wr w' → w'.cell? ⟨w.heap.size, 0, none⟩ = some (.slice a0 n0 c0) ∧ w'.cell? ⟨w.heap.size, 1, none⟩ = some (.slice a1 n1 c1) ∧ w'.cell? ⟨w.heap.size, 2, none⟩ = some (.slice (some ⟨b, off, none⟩) n2 c2) ∧ w'.cell? ⟨b, off + k * 3, none⟩ = some (.int .i64 m.areas[k].id) ∧ w'.cell? ⟨b, off + k * 3 + 1, none⟩ = some (.slice pa m.areas[k].parts.length pc) ∧ w'.cell? ⟨b, off + k * 3 + 2, none⟩ = some (.slice ta m.areas[k].tags.length tc) :=
          fun w' h => ⟨(Y.bel h).cell 0 (by simp), (Y.bel h).cell 1 (by simp), (Y.bel h).cell 2 (by simp), bel_cellM h hb d0, bel_cellM h hb d1, bel_cellM h hb d2⟩
         clear hx Y tt tp
         go_wp2
         refine wp_region_noPanic ?_
         refine wp_region_held_drew (S := fun w' => Bel wr w') (by kernel_rfl) (Bel.drew g0) (fun hHeld => ?_)
         refine tk 0 hHeld ?_; refine tk 1 hHeld ?_; refine tk 2 hHeld ?_; refine tk 3 hHeld ?_; refine tk 4 hHeld ?_; refine tk 5 hHeld ?_
         refine rd1 6 (fun K hK => ?_)
         go_simp
         refine (HC.out false _ h1 hHeld).mono ?_
         rintro e w' ⟨rfl, hbk⟩
         go_wp2_with fail
         refine hK.out _ _ (bel_step hHeld hbk) ?_; clear hK K hHeld; intro hHeld
         try simp only [Act.put, List.setIfInBounds_toArray, List.set_cons_zero, List.set_cons_succ]
         refine tk 7 hHeld ?_; refine tk 8 hHeld ?_; refine sk 9 hHeld ?_; refine sk 10 hHeld ?_; refine sk 11 hHeld ?_
         refine sk 12 hHeld ?_; refine sk 13 hHeld ?_; refine sk 14 hHeld ?_; refine sk 15 hHeld ?_; refine sk 16 hHeld ?_
         refine sk 17 hHeld ?_; refine sk 18 hHeld ?_; refine sk 19 hHeld ?_; refine sk 20 hHeld ?_; refine sk 21 hHeld ?_
         refine sk 22 hHeld ?_; refine sk 23 hHeld ?_; refine sk 24 hHeld ?_; refine sk 25 hHeld ?_; refine sk 26 hHeld ?_
         refine tk 27 hHeld ?_
         refine wpAnyH_done (by kernel_rfl) ?_ _
         refine NoPanic.normal ?_
         go_wp2
         go_ret
         exact ⟨ret_bl HF.out, bel_step hBr' hHeld⟩
        obtain ⟨q1, q2, q3⟩ := areaP_of h1
        have Q1 : Hid _ := q1
        have Q3 : Hid _ := q3
        clear q1 q3
        rcases k with _ | j
        ·have HA : Hid (prevI (aId m.areas) 0 < aId m.areas 0 ∧ aId m.areas 0 ≤ 1000000000 ∧ aTg m.areas 0 = true ∧ AreaP m.ways.length (wId m.ways) m.areas[0].parts) := by
          rw [HI.out, HT.out]
          have := Q1.out
          exact ⟨by simp only [prevI]; omega, this.2, q2, Q3.out⟩
         have hR : ∀ w', Bel wr w' → w'.cell? ⟨w.heap.size, 0, none⟩ = some (.slice a0 n0 c0) ∧ w'.cell? ⟨w.heap.size, 1, none⟩ = some (.slice a1 n1 c1) ∧ w'.cell? ⟨w.heap.size, 2, none⟩ = some (.slice (some ⟨b, off, none⟩) n2 c2) ∧ w'.cell? ⟨b, off, none⟩ = some (.int .i64 m.areas[0].id) ∧ w'.cell? ⟨b, off + 1, none⟩ = some (.slice pa m.areas[0].parts.length pc) ∧ w'.cell? ⟨b, off + 2, none⟩ = some (.slice ta m.areas[0].tags.length tc) :=
          fun w' h => ⟨(Y.bel h).cell 0 (by simp), (Y.bel h).cell 1 (by simp), (Y.bel h).cell 2 (by simp), bel_cellM h hb (by simpa using d0), bel_cellM h hb (by simpa using d1), bel_cellM h hb (by simpa using d2)⟩
         clear hx Y tt tp
         go_wp2
         refine wp_region_noPanic ?_
         refine wp_region_held_drew (S := fun w' => Bel wr w') (by kernel_rfl) (Bel.drew g0) (fun hHeld => ?_)
         refine tk 0 hHeld ?_; refine tk 1 hHeld ?_; refine tk 2 hHeld ?_; refine tk 3 hHeld ?_; refine tk 4 hHeld ?_; refine tk 5 hHeld ?_
         refine rd1 6 (fun K hK => ?_)
         go_simp
         refine (HC.out true _ h1 hHeld).mono ?_
         rintro e w' ⟨rfl, hbk⟩
         go_wp2_with fail
         refine hK.out _ _ (bel_step hHeld hbk) ?_; clear hK K hHeld; intro hHeld
         try simp only [Act.put, List.setIfInBounds_toArray, List.set_cons_zero, List.set_cons_succ]
         refine tk 7 hHeld ?_; refine tk 8 hHeld ?_; refine tk 9 hHeld ?_; refine tk 10 hHeld ?_; refine tk 11 hHeld ?_
         refine sk 12 hHeld ?_; refine sk 13 hHeld ?_; refine sk 14 hHeld ?_; refine sk 15 hHeld ?_; refine sk 16 hHeld ?_
         refine sk 17 hHeld ?_; refine sk 18 hHeld ?_; refine sk 19 hHeld ?_; refine sk 20 hHeld ?_; refine sk 21 hHeld ?_
         refine sk 22 hHeld ?_; refine sk 23 hHeld ?_; refine sk 24 hHeld ?_; refine sk 25 hHeld ?_; refine tk 26 hHeld ?_
         refine tk 27 hHeld ?_
         refine wpAnyH_done (by kernel_rfl) ?_ _
         refine NoPanic.normal ?_
         go_wp2
         go_roundw
         case rel => exact ⟨1, by omega, by go_num, (fun j h hj => by obtain rfl : j = 0 := (by omega); exact HA.out : ∀ j (h : j < m.areas.length), j < 1 → prevI (aId m.areas) j < aId m.areas j ∧ aId m.areas j ≤ 1000000000 ∧ aTg m.areas j = true ∧ AreaP m.ways.length (wId m.ways) m.areas[j].parts), bel_step hbel' hHeld⟩
         case measure => simp [intOf]; omega
        ·obtain ⟨_, p0, _⟩ := hx j (by omega)
         rw [← aId_at (show j < m.areas.length by omega)] at p0
         obtain ⟨y, Hy⟩ : ∃ y, Hid (y = aId m.areas j) := ⟨_, (rfl : aId m.areas j = _)⟩
         rw [← Hy.out] at p0
         have hltj : (j : Int) < (n2 : Int) := by omega
         have hj1 : IntKind.i64.wrap (j : Int) = j := by rw [IntKind.wrap_i64]; omega
         have hltk : (j : Int) + 1 < (n2 : Int) := by omega
         have hj0 : (0 : Int) ≤ (j : Int) := by omega
         have hj2 : (0 : Int) ≤ (j : Int) + 1 := by omega
         have hj3 : (0 : Int) < (j : Int) + 1 := by omega
         have htn : ((j : Int) + 1).toNat = j + 1 := by omega
         have hR : ∀ w', Bel wr w' → w'.cell? ⟨w.heap.size, 0, none⟩ = some (.slice a0 n0 c0) ∧ w'.cell? ⟨w.heap.size, 1, none⟩ = some (.slice a1 n1 c1) ∧ w'.cell? ⟨w.heap.size, 2, none⟩ = some (.slice (some ⟨b, off, none⟩) n2 c2) ∧ w'.cell? ⟨b, off + (j + 1) * 3, none⟩ = some (.int .i64 m.areas[j + 1].id) ∧ w'.cell? ⟨b, off + (j + 1) * 3 + 1, none⟩ = some (.slice pa m.areas[j + 1].parts.length pc) ∧ w'.cell? ⟨b, off + (j + 1) * 3 + 2, none⟩ = some (.slice ta m.areas[j + 1].tags.length tc) ∧ w'.cell? ⟨b, off + j * 3, none⟩ = some (.int .i64 y) :=
          fun w' h => ⟨(Y.bel h).cell 0 (by simp), (Y.bel h).cell 1 (by simp), (Y.bel h).cell 2 (by simp), bel_cellM h hb d0, bel_cellM h hb d1, bel_cellM h hb d2, bel_cellM h hb p0⟩
         by_cases hyx : y < m.areas[j + 1].id
         ·have HA : Hid (prevI (aId m.areas) (j + 1) < aId m.areas (j + 1) ∧ aId m.areas (j + 1) ≤ 1000000000 ∧ aTg m.areas (j + 1) = true ∧ AreaP m.ways.length (wId m.ways) m.areas[j + 1].parts) := by
           rw [HI.out, HT.out]
           exact ⟨by simp only [prevI]; rw [← Hy.out]; exact hyx, Q1.out.2, q2, Q3.out⟩
          clear hx Y tt tp p0
          go_wp2
          go_region_held3 (fun w' => Bel wr w') (with_reducible (repeat (first | assumption | exact g0 | refine Bel.drew ?_ | refine bel_then (by assumption) ?_)))
           (first
            | (go_at_call 46; refine (HC.out true _ h1 (by assumption)).mono ?_; rintro e w' ⟨rfl, hbk⟩))
          have hH : Bel wr w' := by assumption
          go_wp2
          go_roundw
          case rel => exact ⟨j + 2, by omega, by go_num, (fun i h hi => by
            by_cases e : i = j + 1
            ·subst e; exact HA.out
            ·exact H.out i h (by omega) : ∀ j_1 (h : j_1 < m.areas.length), j_1 < j + 2 → prevI (aId m.areas) j_1 < aId m.areas j_1 ∧ aId m.areas j_1 ≤ 1000000000 ∧ aTg m.areas j_1 = true ∧ AreaP m.ways.length (wId m.ways) m.areas[j_1].parts), bel_step hbel' hH⟩
          case measure => simp [intOf]; omega
         ·have HF : Hid (false = mapB m) := (bP_false fun h => by have h5 := (h.aa (j + 1) (by rw [E2.out]; exact hlt)).1; rw [HI.out] at h5; simp only [prevI] at h5; rw [← Hy.out] at h5; exact hyx h5).symm
          clear hx Y tt tp p0
          go_wp2
          go_region_held3 (fun w' => Bel wr w') (with_reducible (repeat (first | assumption | exact g0 | refine Bel.drew ?_ | refine bel_then (by assumption) ?_)))
           (first
            | (go_at_call 46; refine (HC.out true _ h1 (by assumption)).mono ?_; rintro e w' ⟨rfl, hbk⟩))
          have hH : Bel wr w' := by assumption
          go_wp2
          go_ret
          exact ⟨ret_bl HF.out, bel_step hBr' hH⟩
       ·have e : n2 = k := by omega
        subst e
        have AA2 : Hid (AscP m.areas.length (aId m.areas) (aTg m.areas)) := (fun i hi => by have := H.out i hi (by rw [E2.out] at hi; exact hi); exact ⟨this.1, this.2.1, this.2.2.1⟩ : AscP m.areas.length (aId m.areas) (aTg m.areas))
        have AR2 : Hid (∀ i (h : i < m.areas.length), AreaP m.ways.length (wId m.ways) m.areas[i].parts) := (fun i hi => (H.out i hi (by rw [E2.out] at hi; exact hi)).2.2.2 : ∀ i (h : i < m.areas.length), AreaP m.ways.length (wId m.ways) m.areas[i].parts)
        clear H
        have HT : Hid (true = mapB m) := (bP_true ⟨by rw [E0.out]; exact s0, by rw [E1.out]; exact s1, by rw [E2.out]; exact s2, AN.out, AW.out, AA2.out, PL.out, WY.out, AR2.out⟩).symm
        go_wp2
        go_ret
        exact ⟨ret_bl HT.out, hBr'⟩
 ·have HF : Hid (false = mapB m) := (mapB_big (by rw [E0.out, E1.out, E2.out]; exact hs)).symm
  by_cases h0 : n0 ≤ 5000
  ·by_cases h1 : n1 ≤ 1000
   ·have h2 : ¬ n2 ≤ 300 := fun h => hs ⟨h0, h1, h⟩
    clear hs
    go_enter Tryz.func17, Tryz.ntmps17
    go_wp2
    go_ret
    exact ⟨ret_bl HF.out, bel_alloc (Bel.refl _) _⟩
   ·clear hs
    go_enter Tryz.func17, Tryz.ntmps17
    go_wp2
    go_ret
    exact ⟨ret_bl HF.out, bel_alloc (Bel.refl _) _⟩
  ·clear hs
   go_enter Tryz.func17, Tryz.ntmps17
   go_wp2
   go_ret
   exact ⟨ret_bl HF.out, bel_alloc (Bel.refl _) _⟩
end Go.Proofs.YtldfcnlhjjiihaaGreat
