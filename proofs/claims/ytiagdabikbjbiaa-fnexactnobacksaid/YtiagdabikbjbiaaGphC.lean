/-
  Whether a graph can be, in the program: its bans, and all together: contracts.
-/
import Derived.Test.YtiagdabikbjbiaaXA
import Derived.Test.YtiagdabikbjbiaaGphP
namespace Go.Proofs.Ytiagdabikbjbiaa
open Go.RowKit Go.Maps

def BanAt (rs : List RoadD) (l : List BanD) (i : Nat) (h : i < l.length) : Prop := meetsP rs l[i] ∧ (0 < i → banLt (l[i - 1]'(by omega)) l[i])

set_option maxRecDepth 100000 in
set_option maxHeartbeats 4000000 in
theorem bansOk_any (a0 : Option Addr) (n0 c0 : Nat) (a1 : Option Addr) (n1 c1 : Nat) (a2 : Option Addr) (n c2 : Nat) (rs : List RoadD) (br : List Nat) (l : List BanD) (bs : List Nat) (w : World) (hR : RoadL w a1 rs br) (hr : rs.length = n1) (hT : BanL w a2 l bs) (hn : l.length = n) (hm : n ≤ 1048576) :
    Calls Try.prog 71 #[gphV a0 n0 c0 a1 n1 c1 a2 n c2] w fun e w' => e = .returned (.bool (bP (bansP rs l))) ∧ Bel w w' := by
  have Hn : Hid (l.length = n) := hn
  have Hr : Hid (rs.length = n1) := hr
  clear hn hr
  obtain ⟨W, HW⟩ : ∃ W, Hid (W = w.alloc (.cells #[.slice a0 n0 c0, .slice a1 n1 c1, .slice a2 n c2] 34)) := ⟨_, (rfl : w.alloc (.cells #[.slice a0 n0 c0, .slice a1 n1 c1, .slice a2 n c2] 34) = _)⟩
  have hBW : Bel w W := by rw [HW.out]; exact bel_alloc (Bel.refl _) _
  have hTW := hT.bel banE hBW
  have hRW := hR.bel roadE hBW
  have X0 : Blk W w.heap.size [.slice a0 n0 c0, .slice a1 n1 c1, .slice a2 n c2] := by rw [HW.out]; exact Blk.new w [.slice a0 n0 c0, .slice a1 n1 c1, .slice a2 n c2] _
  have x2 : W.cell? ⟨w.heap.size, 2, none⟩ = some (.slice a2 n c2) := X0.cell 2 (by simp)
  have xl := X0.lt
  clear hT hR
  go_enter Try.func71, Try.ntmps71
  go_wp2
  rw [← HW.out]
  go_wp2
  go_loopw [3, 4, 8] (fun _ _ i wr => ∃ k : Nat, k ≤ n ∧ i = .int .i64 k ∧ (∀ j (h : j < l.length), j < k → BanAt rs l j h) ∧ Bel W wr) (fun _ _ i _ => n - (intOf i).toNat)
  case atStart => exact ⟨0, Nat.zero_le _, rfl, fun j _ hj => absurd hj (Nat.not_lt_zero _), Bel.refl _⟩
  case round =>
    obtain ⟨k, hk, rfl, hall, hbel⟩ := hrel
    have H : Hid (∀ j (h : j < l.length), j < k → BanAt rs l j h) := hall
    clear hall x2 xl
    by_cases hlt : k < n
    · have hkl : k < l.length := by rw [Hn.out]; exact hlt
      obtain ⟨b, off, f, rfl, hb, hx⟩ := (hTW.bel banE hbel).out hkl
      obtain ⟨_, i0, i1, z0, z1⟩ := hx k hkl
      obtain ⟨d, Hd⟩ : ∃ d, Hid (d = l[k]) := ⟨_, (rfl : l[k] = _)⟩
      rw [← Hd.out] at z0 z1
      obtain ⟨V, HV⟩ : ∃ V, Hid (V = wr.alloc (.cells #[.int .i64 d.fr, .int .i64 d.to] 75)) := ⟨_, (rfl : wr.alloc (.cells #[.int .i64 d.fr, .int .i64 d.to] 75) = _)⟩
      have hbV : Bel wr V := by rw [HV.out]; exact bel_alloc (Bel.refl _) _
      have XV : Blk V wr.heap.size [.int .i64 d.fr, .int .i64 d.to] := by rw [HV.out]; exact Blk.new wr [.int .i64 d.fr, .int .i64 d.to] _
      have hWV := bel_step hbel hbV
      have hBV := bel_step hBW hWV
      have XG := X0.bel hWV
      have hS : ∀ w', Bel V w' → w'.cell? ⟨wr.heap.size, 0, none⟩ = some (.int .i64 d.fr) ∧ w'.cell? ⟨wr.heap.size, 1, none⟩ = some (.int .i64 d.to) ∧ w'.cell? ⟨w.heap.size, 1, none⟩ = some (.slice a1 n1 c1) ∧ w'.cell? ⟨w.heap.size, 2, none⟩ = some (.slice (some ⟨b, off, none⟩) n c2) := fun w' h =>
        ⟨(XV.bel h).cell 0 (by simp), (XV.bel h).cell 1 (by simp), (XG.bel h).cell 1 (by simp), (XG.bel h).cell 2 (by simp)⟩
      have g0 : Bel V V := Bel.refl _
      have hlt' : (k : Int) < (n : Int) := by omega
      clear XV XG X0
      go_upto_region 4 with fail
      rw [← HV.out]
      rcases Bool.eq_false_or_eq_true (inN n1 d.fr) with hf | hf
      · rcases Bool.eq_false_or_eq_true (inN n1 d.to) with ht | ht
        · obtain ⟨ri, hri, er⟩ := inN_nat hf
          obtain ⟨rj, hrj, et⟩ := inN_nat ht
          rw [er] at hf
          rw [et] at ht
          have hril : ri < rs.length := by rw [Hr.out]; exact hri
          have hrjl : rj < rs.length := by rw [Hr.out]; exact hrj
          obtain ⟨rb, ro, rf, rfl, hrb, hrx⟩ := (hRW.bel roadE hWV).out hril
          obtain ⟨_, _, _, _, _, _, _, _, y1, _⟩ := hrx ri hril
          obtain ⟨_, _, _, _, _, _, _, y0, _⟩ := hrx rj hrjl
          obtain ⟨p, Hp⟩ : ∃ p, Hid (p = rs[ri].to) := ⟨_, (rfl : rs[ri].to = _)⟩
          obtain ⟨q, Hq⟩ : ∃ p, Hid (p = rs[rj].fr) := ⟨_, (rfl : rs[rj].fr = _)⟩
          rw [← Hp.out] at y1
          rw [← Hq.out] at y0
          have hS2 : ∀ w', Bel V w' → w'.cell? ⟨wr.heap.size, 0, none⟩ = some (.int .i64 (ri : Int)) ∧ w'.cell? ⟨wr.heap.size, 1, none⟩ = some (.int .i64 (rj : Int)) ∧ w'.cell? ⟨w.heap.size, 1, none⟩ = some (.slice (some ⟨rb, ro, none⟩) n1 c1) ∧ w'.cell? ⟨w.heap.size, 2, none⟩ = some (.slice (some ⟨b, off, none⟩) n c2) ∧ w'.cell? ⟨rb, ro + ri * 6 + 1, none⟩ = some (.int .i64 p) ∧ w'.cell? ⟨rb, ro + rj * 6, none⟩ = some (.int .i64 q) := fun w' h => by
            obtain ⟨s0, s1, s2, s3⟩ := hS w' h
            rw [er] at s0; rw [et] at s1
            exact ⟨s0, s1, s2, s3, bel_cellM h hrb y1, bel_cellM h hrb y0⟩
          have HMM : Hid (meetsP rs l[k] ↔ p = q) := by rw [Hp.out, Hq.out, ← Hd.out]; exact meetsP_at hril hrjl er et
          have hri' : (ri : Int) < (n1 : Int) := by omega
          have hrj' : (rj : Int) < (n1 : Int) := by omega
          rcases k with _ | m
          · clear hS hx hTW hRW hrx y0 y1 z0 z1 i0 i1 er et
            by_cases hpq : p = q
            · have HM : Hid (meetsP rs l[0]) := HMM.out.2 hpq
              subst hpq
              refine wp_region_noPanic ?_
              refine wp_region_held_drew (S := fun w' => Bel V w') (by kernel_rfl) (Bel.drew g0) (fun hHeld => ?_)
              refine tk 0 hHeld ?_; refine tk 1 hHeld ?_; refine tk 2 hHeld ?_; refine tk 3 hHeld ?_
              refine rd1 4 (fun K hK => ?_)
              go_simp
              refine (inRoad_r _ _ _ _ true _ hf).mono ?_
              rintro e w1 ⟨rfl, rfl⟩
              go_wp2_with fail
              refine hK.out _ _ (hHeld) (fun hHeld' => ?_)
              clear hK K hHeld
              have hHeld := hHeld'
              clear hHeld'
              try simp only [Act.put, List.setIfInBounds_toArray, List.set_cons_zero, List.set_cons_succ]
              refine tk 5 hHeld ?_; refine tk 6 hHeld ?_; refine tk 7 hHeld ?_; refine tk 8 hHeld ?_; refine tk 9 hHeld ?_; refine tk 10 hHeld ?_
              refine rd1 11 (fun K hK => ?_)
              go_simp
              refine (inRoad_r _ _ _ _ true _ ht).mono ?_
              rintro e w2 ⟨rfl, rfl⟩
              go_wp2_with fail
              refine hK.out _ _ (hHeld) (fun hHeld' => ?_)
              clear hK K hHeld
              have hHeld := hHeld'
              clear hHeld'
              try simp only [Act.put, List.setIfInBounds_toArray, List.set_cons_zero, List.set_cons_succ]
              refine tk 12 hHeld ?_; refine tk 13 hHeld ?_; refine tk 14 hHeld ?_; refine tk 15 hHeld ?_; refine tk 16 hHeld ?_
              refine tk 17 hHeld ?_; refine tk 18 hHeld ?_; refine tk 19 hHeld ?_; refine tk 20 hHeld ?_; refine tk 21 hHeld ?_
              refine tk 22 hHeld ?_; refine tk 23 hHeld ?_; refine tk 24 hHeld ?_; refine tk 25 hHeld ?_; refine tk 26 hHeld ?_
              refine tk 27 hHeld ?_; refine tk 28 hHeld ?_; refine tk 29 hHeld ?_; refine tk 30 hHeld ?_
              refine wpAnyH_done (by kernel_rfl) ?_ _
              refine NoPanic.normal ?_
              have hH4 : Bel V V.drew := hHeld
              go_wp2_with fail
              have HA : Hid (BanAt rs l 0 hkl) := ⟨HM.out, fun h => absurd h (Nat.lt_irrefl _)⟩
              refine wp_region_noPanic ?_
              refine wp_region_held_drew (S := fun w' => Bel V w') (by kernel_rfl) (Bel.drew hH4) (fun hHeld => ?_)
              refine tk 0 hHeld ?_; refine tk 1 hHeld ?_; refine tk 2 hHeld ?_; refine sk 3 hHeld ?_; refine sk 4 hHeld ?_; refine sk 5 hHeld ?_
              refine sk 6 hHeld ?_; refine sk 7 hHeld ?_; refine sk 8 hHeld ?_; refine sk 9 hHeld ?_; refine sk 10 hHeld ?_; refine sk 11 hHeld ?_
              refine tk 12 hHeld ?_
              refine wpAnyH_done (by kernel_rfl) ?_ _
              refine NoPanic.normal ?_
              go_wp2
              go_roundw
              case rel => exact ⟨1, by omega, by go_num, fun j h hj => by
                              obtain rfl : j = 0 := by omega
                              exact HA.out, bel_step hWV hHeld⟩
              case measure => simp [intOf]; omega
            · have HF : Hid (false = bP (bansP rs l)) := (bansP_at hkl (.inl fun h => hpq (HMM.out.1 h))).symm
              have hq1 : (p != q) = true := by simp [hpq]
              have hq2 : (p == q) = false := by simp [hpq]
              refine wp_region_noPanic ?_
              refine wp_region_held_drew (S := fun w' => Bel V w') (by kernel_rfl) (Bel.drew g0) (fun hHeld => ?_)
              refine tk 0 hHeld ?_; refine tk 1 hHeld ?_; refine tk 2 hHeld ?_; refine tk 3 hHeld ?_
              refine rd1 4 (fun K hK => ?_)
              go_simp
              refine (inRoad_r _ _ _ _ true _ hf).mono ?_
              rintro e w1 ⟨rfl, rfl⟩
              go_wp2_with fail
              refine hK.out _ _ (hHeld) (fun hHeld' => ?_)
              clear hK K hHeld
              have hHeld := hHeld'
              clear hHeld'
              try simp only [Act.put, List.setIfInBounds_toArray, List.set_cons_zero, List.set_cons_succ]
              refine tk 5 hHeld ?_; refine tk 6 hHeld ?_; refine tk 7 hHeld ?_; refine tk 8 hHeld ?_; refine tk 9 hHeld ?_; refine tk 10 hHeld ?_
              refine rd1 11 (fun K hK => ?_)
              go_simp
              refine (inRoad_r _ _ _ _ true _ ht).mono ?_
              rintro e w2 ⟨rfl, rfl⟩
              go_wp2_with fail
              refine hK.out _ _ (hHeld) (fun hHeld' => ?_)
              clear hK K hHeld
              have hHeld := hHeld'
              clear hHeld'
              try simp only [Act.put, List.setIfInBounds_toArray, List.set_cons_zero, List.set_cons_succ]
              refine tk 12 hHeld ?_; refine tk 13 hHeld ?_; refine tk 14 hHeld ?_; refine tk 15 hHeld ?_; refine tk 16 hHeld ?_
              refine tk 17 hHeld ?_; refine tk 18 hHeld ?_; refine tk 19 hHeld ?_; refine tk 20 hHeld ?_; refine tk 21 hHeld ?_
              refine tk 22 hHeld ?_; refine tk 23 hHeld ?_; refine tk 24 hHeld ?_; refine tk 25 hHeld ?_; refine tk 26 hHeld ?_
              refine tk 27 hHeld ?_; refine tk 28 hHeld ?_; refine tk 29 hHeld ?_; refine tk 30 hHeld ?_
              refine wpAnyH_done (by kernel_rfl) ?_ _
              refine NoPanic.normal ?_
              go_wp2
              go_ret
              exact ⟨ret_bl HF.out, bel_step hBV hHeld⟩
          · obtain ⟨P, HP⟩ : ∃ d, Hid (d = l[m]) := ⟨_, (rfl : l[m] = _)⟩
            obtain ⟨_, _, _, p0, p1⟩ := hx m (by omega)
            rw [← HP.out] at p0 p1
            obtain ⟨r, HR⟩ : ∃ r, Hid (bnz P d = r) := ⟨_, (rfl : bnz P d = _)⟩
            have cB : ∀ w, Calls Try.prog 61 #[.agg #[.int .i64 P.fr, .int .i64 P.to], .agg #[.int .i64 (ri : Int), .int .i64 (rj : Int)]] w fun e w' => e = .returned (.int .i64 r) ∧ Gw w w' := fun w => by rw [← HR.out, ← er, ← et]; exact banCmp_any P d w
            have hS3 : ∀ w', Bel V w' → w'.cell? ⟨b, off + m * 2, none⟩ = some (.int .i64 P.fr) ∧ w'.cell? ⟨b, off + m * 2 + 1, none⟩ = some (.int .i64 P.to) := fun w' h => ⟨bel_cellM (bel_step hbV h) hb p0, bel_cellM (bel_step hbV h) hb p1⟩
            have hmm : IntKind.i64.wrap (m : Int) = m := by rw [IntKind.wrap_i64]; omega
            have hltm : (m : Int) < (n : Int) := by omega
            clear hS hx hTW hRW hrx y0 y1 z0 z1 i0 i1 er et p0 p1
            by_cases hpq : p = q
            · have HM : Hid (meetsP rs l[m + 1]) := HMM.out.2 hpq
              subst hpq
              refine wp_region_noPanic ?_
              refine wp_region_held_drew (S := fun w' => Bel V w') (by kernel_rfl) (Bel.drew g0) (fun hHeld => ?_)
              refine tk 0 hHeld ?_; refine tk 1 hHeld ?_; refine tk 2 hHeld ?_; refine tk 3 hHeld ?_
              refine rd1 4 (fun K hK => ?_)
              go_simp
              refine (inRoad_r _ _ _ _ true _ hf).mono ?_
              rintro e w1 ⟨rfl, rfl⟩
              go_wp2_with fail
              refine hK.out _ _ (hHeld) (fun hHeld' => ?_)
              clear hK K hHeld
              have hHeld := hHeld'
              clear hHeld'
              try simp only [Act.put, List.setIfInBounds_toArray, List.set_cons_zero, List.set_cons_succ]
              refine tk 5 hHeld ?_; refine tk 6 hHeld ?_; refine tk 7 hHeld ?_; refine tk 8 hHeld ?_; refine tk 9 hHeld ?_; refine tk 10 hHeld ?_
              refine rd1 11 (fun K hK => ?_)
              go_simp
              refine (inRoad_r _ _ _ _ true _ ht).mono ?_
              rintro e w2 ⟨rfl, rfl⟩
              go_wp2_with fail
              refine hK.out _ _ (hHeld) (fun hHeld' => ?_)
              clear hK K hHeld
              have hHeld := hHeld'
              clear hHeld'
              try simp only [Act.put, List.setIfInBounds_toArray, List.set_cons_zero, List.set_cons_succ]
              refine tk 12 hHeld ?_; refine tk 13 hHeld ?_; refine tk 14 hHeld ?_; refine tk 15 hHeld ?_; refine tk 16 hHeld ?_
              refine tk 17 hHeld ?_; refine tk 18 hHeld ?_; refine tk 19 hHeld ?_; refine tk 20 hHeld ?_; refine tk 21 hHeld ?_
              refine tk 22 hHeld ?_; refine tk 23 hHeld ?_; refine tk 24 hHeld ?_; refine tk 25 hHeld ?_; refine tk 26 hHeld ?_
              refine tk 27 hHeld ?_; refine tk 28 hHeld ?_; refine tk 29 hHeld ?_; refine tk 30 hHeld ?_
              refine wpAnyH_done (by kernel_rfl) ?_ _
              refine NoPanic.normal ?_
              have hH4 : Bel V V.drew := hHeld
              go_wp2_with fail
              by_cases hr0 : r < 0
              · have HA : Hid (BanAt rs l (m + 1) hkl) := ⟨HM.out, fun _ => by simp only [Nat.add_sub_cancel]; rw [← Hd.out, ← HP.out]; exact bnz_lt.1 (by rw [HR.out]; exact hr0)⟩
                have hge : decide (0 ≤ r) = false := by simp; omega
                refine wp_region_noPanic ?_
                refine wp_region_held_drew (S := fun w' => Bel V w') (by kernel_rfl) (Bel.drew hH4) (fun hHeld => ?_)
                refine tk 0 hHeld ?_; refine tk 1 hHeld ?_; refine tk 2 hHeld ?_; refine tk 3 hHeld ?_; refine tk 4 hHeld ?_; refine tk 5 hHeld ?_
                refine tk 6 hHeld ?_; refine tk 7 hHeld ?_; refine tk 8 hHeld ?_; refine tk 9 hHeld ?_
                refine rd1 10 (fun K hK => ?_)
                go_simp
                refine (cB _).mono ?_
                rintro e w3 ⟨rfl, hbk⟩
                go_wp2_with fail
                refine hK.out _ _ (bel_step hHeld hbk.bel) (fun hHeld' => ?_)
                clear hK K hHeld
                have hHeld := hHeld'
                clear hHeld'
                try simp only [Act.put, List.setIfInBounds_toArray, List.set_cons_zero, List.set_cons_succ]
                refine tk 11 hHeld ?_; refine tk 12 hHeld ?_
                refine wpAnyH_done (by kernel_rfl) ?_ _
                refine NoPanic.normal ?_
                go_wp2
                go_roundw
                case rel => exact ⟨m + 2, by omega, by go_num, fun j h hj => by
                                (by_cases e : j = m + 1)
                                · subst e; exact HA.out
                                · exact H.out j h (by omega), bel_step hWV hHeld⟩
                case measure => simp [intOf]; omega
              · have HF : Hid (false = bP (bansP rs l)) := (bansP_at hkl (.inr ⟨m, rfl, fun h => hr0 (by rw [← HR.out]; exact bnz_lt.2 (by rw [HP.out, Hd.out]; exact h))⟩)).symm
                have hge : decide (0 ≤ r) = true := by simp; omega
                refine wp_region_noPanic ?_
                refine wp_region_held_drew (S := fun w' => Bel V w') (by kernel_rfl) (Bel.drew hH4) (fun hHeld => ?_)
                refine tk 0 hHeld ?_; refine tk 1 hHeld ?_; refine tk 2 hHeld ?_; refine tk 3 hHeld ?_; refine tk 4 hHeld ?_; refine tk 5 hHeld ?_
                refine tk 6 hHeld ?_; refine tk 7 hHeld ?_; refine tk 8 hHeld ?_; refine tk 9 hHeld ?_
                refine rd1 10 (fun K hK => ?_)
                go_simp
                refine (cB _).mono ?_
                rintro e w3 ⟨rfl, hbk⟩
                go_wp2_with fail
                refine hK.out _ _ (bel_step hHeld hbk.bel) (fun hHeld' => ?_)
                clear hK K hHeld
                have hHeld := hHeld'
                clear hHeld'
                try simp only [Act.put, List.setIfInBounds_toArray, List.set_cons_zero, List.set_cons_succ]
                refine tk 11 hHeld ?_; refine tk 12 hHeld ?_
                refine wpAnyH_done (by kernel_rfl) ?_ _
                refine NoPanic.normal ?_
                go_wp2
                go_ret
                exact ⟨ret_bl HF.out, bel_step hBV hHeld⟩
            · have HF : Hid (false = bP (bansP rs l)) := (bansP_at hkl (.inl fun h => hpq (HMM.out.1 h))).symm
              have hq1 : (p != q) = true := by simp [hpq]
              have hq2 : (p == q) = false := by simp [hpq]
              refine wp_region_noPanic ?_
              refine wp_region_held_drew (S := fun w' => Bel V w') (by kernel_rfl) (Bel.drew g0) (fun hHeld => ?_)
              refine tk 0 hHeld ?_; refine tk 1 hHeld ?_; refine tk 2 hHeld ?_; refine tk 3 hHeld ?_
              refine rd1 4 (fun K hK => ?_)
              go_simp
              refine (inRoad_r _ _ _ _ true _ hf).mono ?_
              rintro e w1 ⟨rfl, rfl⟩
              go_wp2_with fail
              refine hK.out _ _ (hHeld) (fun hHeld' => ?_)
              clear hK K hHeld
              have hHeld := hHeld'
              clear hHeld'
              try simp only [Act.put, List.setIfInBounds_toArray, List.set_cons_zero, List.set_cons_succ]
              refine tk 5 hHeld ?_; refine tk 6 hHeld ?_; refine tk 7 hHeld ?_; refine tk 8 hHeld ?_; refine tk 9 hHeld ?_; refine tk 10 hHeld ?_
              refine rd1 11 (fun K hK => ?_)
              go_simp
              refine (inRoad_r _ _ _ _ true _ ht).mono ?_
              rintro e w2 ⟨rfl, rfl⟩
              go_wp2_with fail
              refine hK.out _ _ (hHeld) (fun hHeld' => ?_)
              clear hK K hHeld
              have hHeld := hHeld'
              clear hHeld'
              try simp only [Act.put, List.setIfInBounds_toArray, List.set_cons_zero, List.set_cons_succ]
              refine tk 12 hHeld ?_; refine tk 13 hHeld ?_; refine tk 14 hHeld ?_; refine tk 15 hHeld ?_; refine tk 16 hHeld ?_
              refine tk 17 hHeld ?_; refine tk 18 hHeld ?_; refine tk 19 hHeld ?_; refine tk 20 hHeld ?_; refine tk 21 hHeld ?_
              refine tk 22 hHeld ?_; refine tk 23 hHeld ?_; refine tk 24 hHeld ?_; refine tk 25 hHeld ?_; refine tk 26 hHeld ?_
              refine tk 27 hHeld ?_; refine tk 28 hHeld ?_; refine tk 29 hHeld ?_; refine tk 30 hHeld ?_
              refine wpAnyH_done (by kernel_rfl) ?_ _
              refine NoPanic.normal ?_
              go_wp2
              go_ret
              exact ⟨ret_bl HF.out, bel_step hBV hHeld⟩
        · have HF : Hid (false = bP (bansP rs l)) := (bansP_at hkl (.inl (meetsP_to (by rw [Hr.out, ← Hd.out]; exact ht)))).symm
          refine wp_region_noPanic ?_
          refine wp_region_held_drew (S := fun w' => Bel V w') (by kernel_rfl) (Bel.drew g0) (fun hHeld => ?_)
          refine tk 0 hHeld ?_; refine tk 1 hHeld ?_; refine tk 2 hHeld ?_; refine tk 3 hHeld ?_
          refine rd1 4 (fun K hK => ?_)
          go_simp
          refine (inRoad_r _ _ _ _ true _ hf).mono ?_
          rintro e w1 ⟨rfl, rfl⟩
          go_wp2_with fail
          refine hK.out _ _ (hHeld) (fun hHeld' => ?_)
          clear hK K hHeld
          have hHeld := hHeld'
          clear hHeld'
          try simp only [Act.put, List.setIfInBounds_toArray, List.set_cons_zero, List.set_cons_succ]
          refine tk 5 hHeld ?_; refine tk 6 hHeld ?_; refine tk 7 hHeld ?_; refine tk 8 hHeld ?_; refine tk 9 hHeld ?_; refine tk 10 hHeld ?_
          refine rd1 11 (fun K hK => ?_)
          go_simp
          refine (inRoad_r _ _ _ _ false _ ht).mono ?_
          rintro e w2 ⟨rfl, rfl⟩
          go_wp2_with fail
          refine hK.out _ _ (hHeld) (fun hHeld' => ?_)
          clear hK K hHeld
          have hHeld := hHeld'
          clear hHeld'
          try simp only [Act.put, List.setIfInBounds_toArray, List.set_cons_zero, List.set_cons_succ]
          refine tk 12 hHeld ?_; refine tk 13 hHeld ?_; refine tk 14 hHeld ?_; refine sk 15 hHeld ?_; refine sk 16 hHeld ?_
          refine sk 17 hHeld ?_; refine sk 18 hHeld ?_; refine sk 19 hHeld ?_; refine sk 20 hHeld ?_; refine sk 21 hHeld ?_
          refine sk 22 hHeld ?_; refine sk 23 hHeld ?_; refine sk 24 hHeld ?_; refine sk 25 hHeld ?_; refine sk 26 hHeld ?_
          refine sk 27 hHeld ?_; refine sk 28 hHeld ?_; refine sk 29 hHeld ?_; refine tk 30 hHeld ?_
          refine wpAnyH_done (by kernel_rfl) ?_ _
          refine NoPanic.normal ?_
          go_wp2
          go_ret
          exact ⟨ret_bl HF.out, bel_step hBV hHeld⟩
      · have HF : Hid (false = bP (bansP rs l)) := (bansP_at hkl (.inl (meetsP_fr (by rw [Hr.out, ← Hd.out]; exact hf)))).symm
        refine wp_region_noPanic ?_
        refine wp_region_held_drew (S := fun w' => Bel V w') (by kernel_rfl) (Bel.drew g0) (fun hHeld => ?_)
        refine tk 0 hHeld ?_; refine tk 1 hHeld ?_; refine tk 2 hHeld ?_; refine tk 3 hHeld ?_
        refine rd1 4 (fun K hK => ?_)
        go_simp
        refine (inRoad_r _ _ _ _ false _ hf).mono ?_
        rintro e w1 ⟨rfl, rfl⟩
        go_wp2_with fail
        refine hK.out _ _ (hHeld) (fun hHeld' => ?_)
        clear hK K hHeld
        have hHeld := hHeld'
        clear hHeld'
        try simp only [Act.put, List.setIfInBounds_toArray, List.set_cons_zero, List.set_cons_succ]
        refine tk 5 hHeld ?_; refine tk 6 hHeld ?_; refine sk 7 hHeld ?_; refine sk 8 hHeld ?_; refine sk 9 hHeld ?_; refine sk 10 hHeld ?_
        refine sk 11 hHeld ?_; refine sk 12 hHeld ?_; refine tk 13 hHeld ?_; refine tk 14 hHeld ?_; refine sk 15 hHeld ?_
        refine sk 16 hHeld ?_; refine sk 17 hHeld ?_; refine sk 18 hHeld ?_; refine sk 19 hHeld ?_; refine sk 20 hHeld ?_
        refine sk 21 hHeld ?_; refine sk 22 hHeld ?_; refine sk 23 hHeld ?_; refine sk 24 hHeld ?_; refine sk 25 hHeld ?_
        refine sk 26 hHeld ?_; refine sk 27 hHeld ?_; refine sk 28 hHeld ?_; refine sk 29 hHeld ?_; refine tk 30 hHeld ?_
        refine wpAnyH_done (by kernel_rfl) ?_ _
        refine NoPanic.normal ?_
        go_wp2
        go_ret
        exact ⟨ret_bl HF.out, bel_step hBV hHeld⟩
    · have HT : Hid (true = bP (bansP rs l)) := (bP_true fun i h => H.out i h (by rw [Hn.out] at h; omega)).symm
      go_wp2
      go_ret
      exact ⟨ret_bl HT.out, bel_step hBW hbel⟩
theorem placesOk_r (a0 : Option Addr) (n c0 : Nat) (a1 : Option Addr) (n1 c1 : Nat) (a2 : Option Addr) (n2 c2 : Nat) (l : List SpotD) (bs : List Nat) (r : Bool) (w : World) (hT : SpotL w a0 l bs) (hn : l.length = n) (hm : n ≤ 1048576) (h : bP (spotsP l) = r) :
    Calls Try.prog 68 #[gphV a0 n c0 a1 n1 c1 a2 n2 c2] w fun e w' => e = .returned (.bool r) ∧ Bel w w' := by
  subst h; exact placesOk_any a0 n c0 a1 n1 c1 a2 n2 c2 l bs w hT hn hm
theorem allR_r (a0 : Option Addr) (n0 c0 : Nat) (a1 : Option Addr) (n1 c1 : Nat) (a2 : Option Addr) (n2 c2 : Nat) (a : Option Addr) (n c : Nat) (l : List RoadD) (bs : List Nat) (r : Bool) (w : World) (hT : RoadL w a l bs) (hn : l.length = n) (hm : n ≤ 1048576) (h : bP (roadsP n0 l) = r) :
    Calls Try.prog 69 #[.slice a n c, .func (.func 70) #[gphV a0 n0 c0 a1 n1 c1 a2 n2 c2] #[]] w fun e w' => e = .returned (.bool r) ∧ Bel w w' := by
  subst h; exact allR_any a0 n0 c0 a1 n1 c1 a2 n2 c2 a n c l bs w hT hn hm
theorem bansOk_r (a0 : Option Addr) (n0 c0 : Nat) (a1 : Option Addr) (n1 c1 : Nat) (a2 : Option Addr) (n c2 : Nat) (rs : List RoadD) (br : List Nat) (l : List BanD) (bs : List Nat) (r : Bool) (w : World) (hR : RoadL w a1 rs br) (hr : rs.length = n1) (hT : BanL w a2 l bs) (hn : l.length = n) (hm : n ≤ 1048576) (h : bP (bansP rs l) = r) :
    Calls Try.prog 71 #[gphV a0 n0 c0 a1 n1 c1 a2 n c2] w fun e w' => e = .returned (.bool r) ∧ Bel w w' := by
  subst h; exact bansOk_any a0 n0 c0 a1 n1 c1 a2 n c2 rs br l bs w hR hr hT hn hm

set_option maxRecDepth 100000 in
set_option maxHeartbeats 4000000 in
theorem graphOk_any (v : Value) (g : GraphD) (bs : List Nat) (w : World) (hV : GphV w v g bs) (hQ : GphQ g) :
    Calls Try.prog 54 #[v] w fun e w' => e = .returned (.bool (bP (graphP g))) ∧ Bel w w' := by
  obtain ⟨a0, c0, a1, c1, a2, c2, b0, b1, b2, _, rfl, t0, t1, t2⟩ := hV
  obtain ⟨m0, m1, m2⟩ := hQ
  obtain ⟨n0, H0⟩ : ∃ n, Hid (g.places.length = n) := ⟨_, (rfl : g.places.length = _)⟩
  obtain ⟨n1, H1⟩ : ∃ n, Hid (g.roads.length = n) := ⟨_, (rfl : g.roads.length = _)⟩
  obtain ⟨n2, H2⟩ : ∃ n, Hid (g.bans.length = n) := ⟨_, (rfl : g.bans.length = _)⟩
  rw [H0.out] at m0
  rw [H1.out] at m1
  rw [H2.out] at m2
  rw [H0.out, H1.out, H2.out]
  have hB0 : Bel w (w.alloc (.cells #[.slice a0 n0 c0, .slice a1 n1 c1, .slice a2 n2 c2] 34)) := bel_alloc (Bel.refl _) _
  have X0 : Blk (w.alloc (.cells #[.slice a0 n0 c0, .slice a1 n1 c1, .slice a2 n2 c2] 34)) w.heap.size [.slice a0 n0 c0, .slice a1 n1 c1, .slice a2 n2 c2] := Blk.new w [.slice a0 n0 c0, .slice a1 n1 c1, .slice a2 n2 c2] _
  by_cases k0 : n0 ≤ 5000
  · by_cases k1 : n1 ≤ 8000
    · by_cases k2 : n2 ≤ 2000
      · rcases Bool.eq_false_or_eq_true (bP (spotsP g.places)) with k3 | k3
        · rcases Bool.eq_false_or_eq_true (bP (roadsP n0 g.roads)) with k4 | k4
          · rcases Bool.eq_false_or_eq_true (bP (bansP g.roads g.bans)) with k5 | k5
            · have HR : Hid (true = bP (graphP g)) := (bP_true ⟨⟨by rw [H0.out]; exact k0, by rw [H1.out]; exact k1, by rw [H2.out]; exact k2⟩, bP_out k3, by rw [H0.out]; exact bP_out k4, bP_out k5⟩).symm
              go_enter Try.func54, Try.ntmps54
              go_wp2_with fail
              refine (placesOk_r _ _ _ _ _ _ _ _ _ g.places b0 _ _ (t0.bel spotE hB0) H0.out m0 k3).mono ?_
              rintro e w1 ⟨rfl, hb1⟩
              have hB1 := bel_step hB0 hb1
              have X1 := X0.bel hb1
              have x10 : w1.cell? ⟨w.heap.size, 0, none⟩ = some (.slice a0 n0 c0) := X1.cell 0 (by simp)
              have x11 : w1.cell? ⟨w.heap.size, 1, none⟩ = some (.slice a1 n1 c1) := X1.cell 1 (by simp)
              have x12 : w1.cell? ⟨w.heap.size, 2, none⟩ = some (.slice a2 n2 c2) := X1.cell 2 (by simp)
              have xl1 := X1.lt
              clear hb1
              go_wp2_with fail
              refine (allR_r _ _ _ _ _ _ _ _ _ _ _ _ g.roads b1 _ _ (t1.bel roadE hB1) H1.out m1 k4).mono ?_
              rintro e w2 ⟨rfl, hb2⟩
              have hB2 := bel_step hB1 hb2
              have X2 := X1.bel hb2
              have x20 : w2.cell? ⟨w.heap.size, 0, none⟩ = some (.slice a0 n0 c0) := X2.cell 0 (by simp)
              have x21 : w2.cell? ⟨w.heap.size, 1, none⟩ = some (.slice a1 n1 c1) := X2.cell 1 (by simp)
              have x22 : w2.cell? ⟨w.heap.size, 2, none⟩ = some (.slice a2 n2 c2) := X2.cell 2 (by simp)
              have xl2 := X2.lt
              clear hb2
              go_wp2_with fail
              refine (bansOk_r _ _ _ _ _ _ _ _ _ g.roads b1 g.bans b2 _ _ (t1.bel roadE hB2) H1.out (t2.bel banE hB2) H2.out m2 k5).mono ?_
              rintro e w3 ⟨rfl, hb3⟩
              have hB3 := bel_step hB2 hb3
              clear hb3
              go_wp2
              go_ret
              first | exact ⟨ret_bl HR.out, hB3⟩ | exact ⟨ret_bl (by rw [← HR.out]; simp; omega), hB3⟩
            · have HR : Hid (false = bP (graphP g)) := (bP_false fun h => bP_not k5 h.2.2.2).symm
              go_enter Try.func54, Try.ntmps54
              go_wp2_with fail
              refine (placesOk_r _ _ _ _ _ _ _ _ _ g.places b0 _ _ (t0.bel spotE hB0) H0.out m0 k3).mono ?_
              rintro e w1 ⟨rfl, hb1⟩
              have hB1 := bel_step hB0 hb1
              have X1 := X0.bel hb1
              have x10 : w1.cell? ⟨w.heap.size, 0, none⟩ = some (.slice a0 n0 c0) := X1.cell 0 (by simp)
              have x11 : w1.cell? ⟨w.heap.size, 1, none⟩ = some (.slice a1 n1 c1) := X1.cell 1 (by simp)
              have x12 : w1.cell? ⟨w.heap.size, 2, none⟩ = some (.slice a2 n2 c2) := X1.cell 2 (by simp)
              have xl1 := X1.lt
              clear hb1
              go_wp2_with fail
              refine (allR_r _ _ _ _ _ _ _ _ _ _ _ _ g.roads b1 _ _ (t1.bel roadE hB1) H1.out m1 k4).mono ?_
              rintro e w2 ⟨rfl, hb2⟩
              have hB2 := bel_step hB1 hb2
              have X2 := X1.bel hb2
              have x20 : w2.cell? ⟨w.heap.size, 0, none⟩ = some (.slice a0 n0 c0) := X2.cell 0 (by simp)
              have x21 : w2.cell? ⟨w.heap.size, 1, none⟩ = some (.slice a1 n1 c1) := X2.cell 1 (by simp)
              have x22 : w2.cell? ⟨w.heap.size, 2, none⟩ = some (.slice a2 n2 c2) := X2.cell 2 (by simp)
              have xl2 := X2.lt
              clear hb2
              go_wp2_with fail
              refine (bansOk_r _ _ _ _ _ _ _ _ _ g.roads b1 g.bans b2 _ _ (t1.bel roadE hB2) H1.out (t2.bel banE hB2) H2.out m2 k5).mono ?_
              rintro e w3 ⟨rfl, hb3⟩
              have hB3 := bel_step hB2 hb3
              clear hb3
              go_wp2
              go_ret
              first | exact ⟨ret_bl HR.out, hB3⟩ | exact ⟨ret_bl (by rw [← HR.out]; simp; omega), hB3⟩
          · have HR : Hid (false = bP (graphP g)) := (bP_false fun h => bP_not k4 (by have := h.2.2.1; rw [H0.out] at this; exact this)).symm
            go_enter Try.func54, Try.ntmps54
            go_wp2_with fail
            refine (placesOk_r _ _ _ _ _ _ _ _ _ g.places b0 _ _ (t0.bel spotE hB0) H0.out m0 k3).mono ?_
            rintro e w1 ⟨rfl, hb1⟩
            have hB1 := bel_step hB0 hb1
            have X1 := X0.bel hb1
            have x10 : w1.cell? ⟨w.heap.size, 0, none⟩ = some (.slice a0 n0 c0) := X1.cell 0 (by simp)
            have x11 : w1.cell? ⟨w.heap.size, 1, none⟩ = some (.slice a1 n1 c1) := X1.cell 1 (by simp)
            have x12 : w1.cell? ⟨w.heap.size, 2, none⟩ = some (.slice a2 n2 c2) := X1.cell 2 (by simp)
            have xl1 := X1.lt
            clear hb1
            go_wp2_with fail
            refine (allR_r _ _ _ _ _ _ _ _ _ _ _ _ g.roads b1 _ _ (t1.bel roadE hB1) H1.out m1 k4).mono ?_
            rintro e w2 ⟨rfl, hb2⟩
            have hB2 := bel_step hB1 hb2
            have X2 := X1.bel hb2
            have x20 : w2.cell? ⟨w.heap.size, 0, none⟩ = some (.slice a0 n0 c0) := X2.cell 0 (by simp)
            have x21 : w2.cell? ⟨w.heap.size, 1, none⟩ = some (.slice a1 n1 c1) := X2.cell 1 (by simp)
            have x22 : w2.cell? ⟨w.heap.size, 2, none⟩ = some (.slice a2 n2 c2) := X2.cell 2 (by simp)
            have xl2 := X2.lt
            clear hb2
            go_wp2
            go_ret
            first | exact ⟨ret_bl HR.out, hB2⟩ | exact ⟨ret_bl (by rw [← HR.out]; simp; omega), hB2⟩
        · have HR : Hid (false = bP (graphP g)) := (bP_false fun h => bP_not k3 h.2.1).symm
          go_enter Try.func54, Try.ntmps54
          go_wp2_with fail
          refine (placesOk_r _ _ _ _ _ _ _ _ _ g.places b0 _ _ (t0.bel spotE hB0) H0.out m0 k3).mono ?_
          rintro e w1 ⟨rfl, hb1⟩
          have hB1 := bel_step hB0 hb1
          have X1 := X0.bel hb1
          have x10 : w1.cell? ⟨w.heap.size, 0, none⟩ = some (.slice a0 n0 c0) := X1.cell 0 (by simp)
          have x11 : w1.cell? ⟨w.heap.size, 1, none⟩ = some (.slice a1 n1 c1) := X1.cell 1 (by simp)
          have x12 : w1.cell? ⟨w.heap.size, 2, none⟩ = some (.slice a2 n2 c2) := X1.cell 2 (by simp)
          have xl1 := X1.lt
          clear hb1
          go_wp2
          go_ret
          first | exact ⟨ret_bl HR.out, hB1⟩ | exact ⟨ret_bl (by rw [← HR.out]; simp; omega), hB1⟩
      · have HR : Hid (false = bP (graphP g)) := (bP_false fun h => k2 (by have := h.1.2.2; rw [H2.out] at this; exact this)).symm
        go_enter Try.func54, Try.ntmps54
        go_wp2
        go_ret
        first | exact ⟨ret_bl HR.out, hB0⟩ | exact ⟨ret_bl (by rw [← HR.out]; simp; omega), hB0⟩
    · have HR : Hid (false = bP (graphP g)) := (bP_false fun h => k1 (by have := h.1.2.1; rw [H1.out] at this; exact this)).symm
      go_enter Try.func54, Try.ntmps54
      go_wp2
      go_ret
      first | exact ⟨ret_bl HR.out, hB0⟩ | exact ⟨ret_bl (by rw [← HR.out]; simp; omega), hB0⟩
  · have HR : Hid (false = bP (graphP g)) := (bP_false fun h => k0 (by have := h.1.1; rw [H0.out] at this; exact this)).symm
    go_enter Try.func54, Try.ntmps54
    go_wp2
    go_ret
    first | exact ⟨ret_bl HR.out, hB0⟩ | exact ⟨ret_bl (by rw [← HR.out]; simp; omega), hB0⟩
end Go.Proofs.Ytiagdabikbjbiaa

