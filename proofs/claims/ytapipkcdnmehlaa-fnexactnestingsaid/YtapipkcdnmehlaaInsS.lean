/-
  Contract of Inside's model: for all rings and every point.
-/
import Derived.Test.YtapipkcdnmehlaaRngC
import Derived.Deep.DeepCutAuto
namespace Go.Proofs.Ytapipkcdnmehlaa
open Go.RowKit

theorem par_step (c : Nat) (b : Bool) : decide ((c + b.toNat) % 2 = 1) = (if b then !decide (c % 2 = 1) else decide (c % 2 = 1)) := by
  cases b
  · rfl
  · show decide ((c + 1) % 2 = 1) = !decide (c % 2 = 1)
    rw [Bool.eq_iff_iff]
    simp only [decide_eq_true_eq, Bool.not_eq_true', decide_eq_false_iff_not]
    omega

set_option maxRecDepth 100000 in
set_option maxHeartbeats 4000000 in
theorem l4Inside_any (a : Option Addr) (n c : Nat) (l : List RingD) (bs : List Nat) (px py : Int) (w : World) (hT : RingL w a l bs) (hn : l.length = n) (hok : rgsB l = true) (hp : POk px py) :
    Calls Try.prog 34 #[.slice a n c, pt px py] w fun e w' => e = .returned (.int .i64 (insR l px py)) ∧ Bel w w' := by
  have Hn : Hid (l.length = n) := hn
  have hm : n ≤ 40 := by rw [← hn]; exact (rgsB_out hok).1
  have HR : Hid (∀ j (hj : j < l.length), l[j].row.length ≤ 2000 ∧ ∀ i, i < l[j].row.length → POk (lx l[j].row i) (ly l[j].row i)) := (rgsB_out hok).2
  obtain ⟨W, HW⟩ : ∃ W, Hid (W = w.alloc (.cells #[.int .i64 px, .int .i64 py] 36)) := ⟨_, (rfl : w.alloc (.cells #[.int .i64 px, .int .i64 py] 36) = _)⟩
  have hBW : Bel w W := by rw [HW.out]; exact bel_alloc (Bel.refl _) _
  have XP : Blk W w.heap.size [.int .i64 px, .int .i64 py] := by rw [HW.out]; exact Blk.new w [.int .i64 px, .int .i64 py] _
  have hTW := hT.bel ringE hBW
  clear hT hok hn
  go_enter Try.func34, Try.ntmps34
  go_wp2
  rw [← HW.out]
  go_loopw [5, 6] (fun o i wr => ∃ k : Nat, k ≤ n ∧ i = .int .i64 k ∧ o = .bool (decide (cntR l px py k % 2 = 1)) ∧ (∀ j (h : j < l.length), j < k → ∀ i, i + 1 < l[j].row.length → stOn l[j].row px py i = false) ∧ Bel W wr) (fun _ i _ => n - (intOf i).toNat)
  case atStart => exact ⟨0, Nat.zero_le _, rfl, rfl, fun j _ hj => absurd hj (Nat.not_lt_zero _), Bel.refl _⟩
  case round =>
    obtain ⟨k, hk, rfl, rfl, hall, hbel⟩ := hrel
    have H : Hid (∀ j (h : j < l.length), j < k → ∀ i, i + 1 < l[j].row.length → stOn l[j].row px py i = false) := hall
    clear hall
    obtain ⟨q, Hq⟩ : ∃ q, Hid (decide (cntR l px py k % 2 = 1) = q) := ⟨_, (rfl : decide (cntR l px py k % 2 = 1) = _)⟩
    rw [Hq.out]
    by_cases hlt : k < n
    · have hkl : k < l.length := by rw [Hn.out]; exact hlt
      obtain ⟨b, off, f, rfl, hb, hx⟩ := (hTW.bel ringE hbel).out hkl
      obtain ⟨a0, k0, _, c0, _, t0⟩ := hx k hkl
      obtain ⟨L, HL⟩ : ∃ L, Hid (l[k].row = L) := ⟨_, (rfl : l[k].row = _)⟩
      have HRk := HR.out k hkl
      have HC1 := cntR_at (rs := l) (px := px) (py := py) hkl
      rw [HL.out] at c0 t0 HRk HC1
      have hm0 : L.length ≤ 2000 := HRk.1
      have HP : Hid (∀ i, i < L.length → POk (lx L i) (ly L i)) := HRk.2
      have HC : Hid (cntR l px py (k + 1) = cntR l px py k + cntT L px py (L.length - 1)) := HC1
      obtain ⟨C, HCk⟩ : ∃ C, Hid (cntR l px py k = C) := ⟨_, (rfl : cntR l px py k = _)⟩
      have HQ : Hid (decide (C % 2 = 1) = q) := by rw [← HCk.out]; exact Hq.out
      have hP0 := t0.pts
      obtain ⟨m, hm1⟩ : ∃ m, L.length = m := ⟨_, rfl⟩
      rw [hm1] at c0 hP0 hm0
      have HM : Hid (L.length = m) := hm1
      clear hx HRk HC1 t0 hm1 hTW
      obtain ⟨wo, hwo⟩ : ∃ V : World, V = wr := ⟨wr, rfl⟩
      subst hwo
      go_wp2
      go_loopw [5, 8] (fun o i wr => ∃ j : Nat, (j + 1 ≤ m ∨ j = 0) ∧ i = .int .i64 ((j : Int) + 1) ∧ o = .bool (decide ((C + cntT L px py j) % 2 = 1)) ∧ (∀ i, i < j → stOn L px py i = false) ∧ Bel wo wr) (fun _ i _ => m - (intOf i).toNat)
      case atStart => exact ⟨0, by omega, rfl, by rw [show C + cntT L px py 0 = C from rfl, HQ.out], fun i hi => absurd hi (Nat.not_lt_zero _), Bel.refl _⟩
      case round =>
        obtain ⟨j, hj, rfl, rfl, hall, hbq⟩ := hrel
        have HA : Hid (∀ i, i < j → stOn L px py i = false) := hall
        clear hall
        obtain ⟨o, Ho⟩ : ∃ o, Hid (decide ((C + cntT L px py j) % 2 = 1) = o) := ⟨_, (rfl : decide ((C + cntT L px py j) % 2 = 1) = _)⟩
        rw [Ho.out]
        by_cases hlj : j + 1 < m
        · rcases hP0.bel hbq with h | ⟨b', off', rfl, h2, h3⟩
          · omega
          · obtain ⟨cx, cy⟩ := h3 j (by omega)
            obtain ⟨cx', cy'⟩ := h3 (j + 1) hlj
            have pa := HP.out j (by have := HM.out; omega)
            have pb := HP.out (j + 1) (by have := HM.out; omega)
            obtain ⟨r, Hr⟩ : ∃ r, Hid (stOn L px py j = r) := ⟨_, (rfl : stOn L px py j = _)⟩
            obtain ⟨t, Ht⟩ : ∃ t, Hid (stRt L px py j = t) := ⟨_, (rfl : stRt L px py j = _)⟩
            have HO1 : Hid (decide ((C + cntT L px py (j + 1)) % 2 = 1) = if t then !o else o) := by
              rw [← Ht.out, ← Ho.out]
              show decide ((C + (cntT L px py j + (stRt L px py j).toNat)) % 2 = 1) = _
              rw [← Nat.add_assoc]
              exact par_step _ _
            have HS : Hid (r = true → insR l px py = 0) := fun e => by
              have h1 : onR l px py = true := onR_true (k := k) (i := j) hkl (by rw [HL.out, HM.out]; exact hlj) (by rw [HL.out, Hr.out]; exact e)
              unfold insR
              rw [h1]
              rfl
            have HrS : Hid (stOn L px py j = r) := Hr.out
            unfold stOn at Hr
            unfold stRt at Ht
            obtain ⟨x0, hx0⟩ : ∃ x, lx L j = x := ⟨_, rfl⟩
            obtain ⟨y0, hy0⟩ : ∃ x, ly L j = x := ⟨_, rfl⟩
            obtain ⟨x1, hx1⟩ : ∃ x, lx L (j + 1) = x := ⟨_, rfl⟩
            obtain ⟨y1, hy1⟩ : ∃ x, ly L (j + 1) = x := ⟨_, rfl⟩
            rw [hx0, hy0, hx1, hy1] at Hr Ht
            rw [hx0, hy0] at pa
            rw [hx1, hy1] at pb
            rw [hx0] at cx; rw [hy0] at cy; rw [hx1] at cx'; rw [hy1] at cy'
            obtain ⟨P2, HP2⟩ : ∃ P2, Hid (P2 = (wr.alloc (.cells #[.int .i64 x0, .int .i64 y0] 36)).alloc (.cells #[.int .i64 x1, .int .i64 y1] 36)) := ⟨_, (rfl : (wr.alloc (.cells #[.int .i64 x0, .int .i64 y0] 36)).alloc (.cells #[.int .i64 x1, .int .i64 y1] 36) = _)⟩
            have hB2 : Bel wr P2 := by rw [HP2.out]; exact bel_alloc (bel_alloc (Bel.refl _) _) _
            have XA : Blk P2 wr.heap.size [.int .i64 x0, .int .i64 y0] := by rw [HP2.out]; exact (Blk.new wr [.int .i64 x0, .int .i64 y0] _).bel (bel_alloc (Bel.refl _) _)
            have XB : Blk P2 (wr.heap.size + 1) [.int .i64 x1, .int .i64 y1] := by rw [HP2.out]; exact Blk.new1 wr _ [.int .i64 x1, .int .i64 y1] _
            have XC : Blk P2 w.heap.size [.int .i64 px, .int .i64 py] := XP.bel (bel_step (bel_step hbel hbq) hB2)
            have hR : ∀ w', Bel P2 w' → w'.cell? ⟨wr.heap.size, 0, none⟩ = some (.int .i64 x0) ∧ w'.cell? ⟨wr.heap.size, 1, none⟩ = some (.int .i64 y0) ∧ w'.cell? ⟨wr.heap.size + 1, 0, none⟩ = some (.int .i64 x1) ∧ w'.cell? ⟨wr.heap.size + 1, 1, none⟩ = some (.int .i64 y1) ∧ w'.cell? ⟨w.heap.size, 0, none⟩ = some (.int .i64 px) ∧ w'.cell? ⟨w.heap.size, 1, none⟩ = some (.int .i64 py) :=
              fun w' h => ⟨(XA.bel h).cell 0 (by simp), (XA.bel h).cell 1 (by simp), (XB.bel h).cell 0 (by simp), (XB.bel h).cell 1 (by simp), (XC.bel h).cell 0 (by simp), (XC.bel h).cell 1 (by simp)⟩
            have cp0 := (hR P2 (Bel.refl _)).2.2.2.2.1
            have cp1 := (hR P2 (Bel.refl _)).2.2.2.2.2
            rw [HP2.out] at cp0 cp1
            have hlt' : (j : Int) + 1 < (m : Int) := by omega
            have hltj : (j : Int) < (m : Int) := by omega
            have htn : ((j : Int) + 1).toNat = j + 1 := by omega
            have hB : Bel W P2 := bel_step (bel_step hbel hbq) hB2
            clear h3 hx0 hy0 hx1 hy1 XA XB XC
            go_wp2_with fail
            refine (l1On_any _ _ _ _ _ _ _ pa pb hp).mono ?_
            rintro e w1 ⟨rfl, hb1⟩
            rw [Hr.out]
            rw [← HP2.out] at hb1
            clear cx cy cx' cy' cp0 cp1 h2
            cases r
            · go_upto_region 13 with fail
              go_cut [80] (fun v wx => v = .bool t ∧ Bel P2 wx)
              case first =>
                have HT : Hid (t = ((decide (y0 ≤ py) && (decide (py < y1) && decide (0 < trn x0 y0 x1 y1 px py))) || (decide (y1 ≤ py) && (decide (py < y0) && decide (trn x0 y0 x1 y1 px py < 0))))) := Ht.out.symm
                obtain ⟨s, Hs⟩ : ∃ s, Hid (sgn (trn x0 y0 x1 y1 px py) = s) := ⟨_, (rfl : sgn (trn x0 y0 x1 y1 px py) = _)⟩
                have HT2 : Hid (t = ((decide (y0 ≤ py) && (decide (py < y1) && decide (0 < s))) || (decide (y1 ≤ py) && (decide (py < y0) && decide (s < 0))))) := by
                  rw [← Hs.out]; refine HT.out.trans ?_
                  rw [Bool.eq_iff_iff]
                  simp only [Bool.and_eq_true, Bool.or_eq_true, decide_eq_true_eq, sgn_pos_iff, sgn_neg_iff]
                clear HT Ht Hr HrS HO1 HS Ho HA
                by_cases h1 : y0 ≤ py
                · by_cases h2 : py < y1
                  · by_cases h3 : 0 < s
                    · go_wp2_with fail
                      refine (l1Turn_any _ _ _ _ _ _ _ pa pb hp).mono ?_
                      rintro e w2 ⟨rfl, hb2⟩
                      rw [Hs.out]
                      have hB3 := bel_step hb1 hb2
                      go_wp2
                      go_meet
                      case rel => exact ⟨congrArg Value.bool (by rw [HT2.out]; simp [h1, h2, h3]), hB3⟩
                    · go_wp2_with fail
                      refine (l1Turn_any _ _ _ _ _ _ _ pa pb hp).mono ?_
                      rintro e w2 ⟨rfl, hb2⟩
                      rw [Hs.out]
                      have hB3 := bel_step hb1 hb2
                      go_wp2
                      go_meet
                      case rel => exact ⟨congrArg Value.bool (by rw [HT2.out]; first | (simp; omega) | (rw [Bool.eq_iff_iff]; simp only [Bool.and_eq_true, Bool.or_eq_true, decide_eq_true_eq]; omega) | (trace_state; fail)), hB3⟩
                  · go_wp2
                    go_meet
                    case rel => exact ⟨congrArg Value.bool (by rw [HT2.out]; first | (simp; omega) | (rw [Bool.eq_iff_iff]; simp only [Bool.and_eq_true, Bool.or_eq_true, decide_eq_true_eq]; omega) | (trace_state; fail)), hb1⟩
                · by_cases h2 : y1 ≤ py
                  · by_cases h3 : s < 0
                    · go_wp2_with fail
                      refine (l1Turn_any _ _ _ _ _ _ _ pa pb hp).mono ?_
                      rintro e w2 ⟨rfl, hb2⟩
                      rw [Hs.out]
                      have hB3 := bel_step hb1 hb2
                      go_wp2
                      go_meet
                      case rel => exact ⟨congrArg Value.bool (by rw [HT2.out]; first | (simp; omega) | (rw [Bool.eq_iff_iff]; simp only [Bool.and_eq_true, Bool.or_eq_true, decide_eq_true_eq]; omega) | (trace_state; fail)), hB3⟩
                    · go_wp2_with fail
                      refine (l1Turn_any _ _ _ _ _ _ _ pa pb hp).mono ?_
                      rintro e w2 ⟨rfl, hb2⟩
                      rw [Hs.out]
                      have hB3 := bel_step hb1 hb2
                      go_wp2
                      go_meet
                      case rel => exact ⟨congrArg Value.bool (by rw [HT2.out]; first | (simp; omega) | (rw [Bool.eq_iff_iff]; simp only [Bool.and_eq_true, Bool.or_eq_true, decide_eq_true_eq]; omega) | (trace_state; fail)), hB3⟩
                  · go_wp2
                    go_meet
                    case rel => exact ⟨congrArg Value.bool (by rw [HT2.out]; first | (simp; omega) | (rw [Bool.eq_iff_iff]; simp only [Bool.and_eq_true, Bool.or_eq_true, decide_eq_true_eq]; omega) | (trace_state; fail)), hb1⟩
              case rest =>
                obtain ⟨rfl, hbc⟩ := hcut
                have HA1 : Hid (∀ i, i < j + 1 → stOn L px py i = false) := fun i hi => by
                  by_cases e : i = j
                  · subst e; exact HrS.out
                  · exact HA.out i (by omega)
                have hBc : Bel wo wc := bel_step (bel_step hbq hB2) hbc
                clear hR
                cases t
                · go_wp2
                  go_roundw
                  case rel => exact ⟨j + 1, by omega, by go_num, by rw [HO1.out]; rfl, HA1.out, hBc⟩
                  case measure => simp [intOf]; omega
                · go_wp2
                  go_roundw
                  case rel => exact ⟨j + 1, by omega, by go_num, by rw [HO1.out]; rfl, HA1.out, hBc⟩
                  case measure => simp [intOf]; omega
            · have HZ := HS.out rfl
              have HZZ : Hid (insR l px py = 0) := HZ
              clear HZ
              go_wp2
              go_ret
              exact ⟨ret_num HZZ.out.symm, bel_step hBW (bel_step hB hb1)⟩
        · obtain rfl : j = m - 1 := by omega
          have hBq : Bel W wr := bel_step hbel hbq
          have HE : Hid (decide (cntR l px py (k + 1) % 2 = 1) = o) := by rw [HC.out, HM.out, HCk.out]; exact Ho.out
          have HF : Hid (∀ j' (h : j' < l.length), j' < k + 1 → ∀ i, i + 1 < l[j'].row.length → stOn l[j'].row px py i = false) := fun j' h h' i hi => by
            by_cases e : j' = k
            · subst e
              rw [HL.out] at hi ⊢
              exact HA.out i (by have := HM.out; omega)
            · exact H.out j' h (by omega) i hi
          go_wp2
          go_roundw
          case rel => exact ⟨k + 1, by omega, by go_num, by rw [HE.out], HF.out, hBq⟩
          case measure => simp [intOf]; omega
    · have e : k = n := by omega
      subst e
      have HN : Hid (insR l px py = if q then 1 else -1) := (by
        have h1 : onR l px py = false := onR_false fun k' hk' i hi => H.out k' hk' (by have := Hn.out; omega) i hi
        unfold insR
        rw [h1, Hn.out, ← Hq.out]
        simp : insR l px py = if q then 1 else -1)
      clear hTW
      cases q
      · go_wp2
        go_ret
        exact ⟨ret_num HN.out.symm, bel_step hBW hbel⟩
      · go_wp2
        go_ret
        exact ⟨ret_num HN.out.symm, bel_step hBW hbel⟩

set_option maxHeartbeats 1000000 in
theorem specInside_any (a : Option Addr) (n c : Nat) (l : List RingD) (bs : List Nat) (px py : Int) (w : World) (hT : RingL w a l bs) (hn : l.length = n) (hm : n ≤ 1048576) (hs : ∀ i (h : i < l.length), l[i].row.length ≤ 1048576) :
    Calls Try.prog 13 #[.slice a n c, pt px py] w fun e w' => e = .returned (.int .i64 (insOf l px py)) ∧ Bel w w' := by
  obtain ⟨W, HW⟩ : ∃ W, Hid (W = w.alloc (.cells #[.int .i64 px, .int .i64 py] 36)) := ⟨_, (rfl : w.alloc (.cells #[.int .i64 px, .int .i64 py] 36) = _)⟩
  have hBW : Bel w W := by rw [HW.out]; exact bel_alloc (Bel.refl _) _
  have XP : Blk W w.heap.size [.int .i64 px, .int .i64 py] := by rw [HW.out]; exact Blk.new w [.int .i64 px, .int .i64 py] _
  have hR : ∀ w', Bel W w' → w'.cell? ⟨w.heap.size, 0, none⟩ = some (.int .i64 px) ∧ w'.cell? ⟨w.heap.size, 1, none⟩ = some (.int .i64 py) := fun w' h => ⟨(XP.bel h).cell 0 (by simp), (XP.bel h).cell 1 (by simp)⟩
  have hTW := hT.bel ringE hBW
  clear hT
  cases hr : rgsB l
  · have hd : insOf l px py = -1 := by simp [insOf, hr]
    rw [hd]; clear hd
    go_enter Try.func13, Try.ntmps13
    go_wp2_with fail
    rw [← HW.out]
    refine (l4RowsOk_any _ _ _ l bs _ hTW hn hm hs).mono ?_
    rintro e w1 ⟨rfl, hb1⟩
    rw [hr]
    go_wp2
    go_ret
    exact ⟨rfl, bel_step hBW hb1⟩
  · cases hp : pok px py
    · have hd : insOf l px py = -1 := by simp [insOf, hp]
      rw [hd]; clear hd
      go_enter Try.func13, Try.ntmps13
      go_wp2_with fail
      rw [← HW.out]
      refine (l4RowsOk_any _ _ _ l bs _ hTW hn hm hs).mono ?_
      rintro e w1 ⟨rfl, hb1⟩
      rw [hr]
      go_wp2_with fail
      refine (specPointOk_any _ _ _).mono ?_
      rintro e w2 ⟨rfl, hb2⟩
      rw [hp]
      go_wp2
      go_ret
      exact ⟨rfl, bel_step hBW (bel_step hb1 hb2)⟩
    · have hd : insOf l px py = insR l px py := by simp [insOf, hr, hp]
      rw [hd]; clear hd
      go_enter Try.func13, Try.ntmps13
      go_wp2_with fail
      rw [← HW.out]
      refine (l4RowsOk_any _ _ _ l bs _ hTW hn hm hs).mono ?_
      rintro e w1 ⟨rfl, hb1⟩
      rw [hr]
      go_wp2_with fail
      refine (specPointOk_any _ _ _).mono ?_
      rintro e w2 ⟨rfl, hb2⟩
      rw [hp]
      have hB2 := bel_step hb1 hb2
      go_wp2_with fail
      refine (l4Inside_any _ _ _ l bs _ _ _ (hTW.bel ringE hB2) hn hr (pOk_iff.1 hp)).mono ?_
      rintro e w3 ⟨rfl, hb3⟩
      go_wp2
      go_ret
      exact ⟨rfl, bel_step hBW (bel_step hB2 hb3)⟩
end Go.Proofs.Ytapipkcdnmehlaa
