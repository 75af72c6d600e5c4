/-
  Contract of Inside in the program: for all rings and every point.
-/
import Derived.Test.YtkpgcnfokohhiaaLiesO
import Derived.Deep.DeepCutAuto
namespace Go.Proofs.Ytkpgcnfokohhiaa
open Go.RowKit

theorem tmod2 (c : Nat) : Int.tmod (c : Int) 2 = ((c % 2 : Nat) : Int) := by
  rw [Int.tmod_eq_emod_of_nonneg (by omega)]; omega

set_option maxRecDepth 100000 in
set_option maxHeartbeats 4000000 in
theorem insideR_any (a : Option Addr) (n c : Nat) (l : List RingD) (bs : List Nat) (px py : Int) (w : World) (hT : RingL w a l bs) (hn : l.length = n) (hok : rgsB l = true) (hp : POk px py) :
    Calls Try.prog 7 #[.slice a n c, pt px py] w fun e w' => e = .returned (.int .i64 (insR l px py)) ∧ Bel w w' := by
  have Hn : Hid (l.length = n) := hn
  have hm : n ≤ 40 := by rw [← hn]; exact (rgsB_out hok).1
  have HR : Hid (∀ j (hj : j < l.length), l[j].row.length ≤ 2000 ∧ ∀ i, i < l[j].row.length → POk (lx l[j].row i) (ly l[j].row i)) := (rgsB_out hok).2
  have hs : ∀ i (h : i < l.length), l[i].row.length ≤ 1048576 := fun i h => Nat.le_trans (HR.out i h).1 (by decide)
  have HCL : Hid (∀ k, k ≤ l.length → cntR l px py k ≤ 2000 * k) := fun k hk => cntR_le px py (fun j hj => (HR.out j hj).1) k hk
  obtain ⟨W, HW⟩ : ∃ W, Hid (W = w.alloc (.cells #[.int .i64 px, .int .i64 py] 26)) := ⟨_, (rfl : w.alloc (.cells #[.int .i64 px, .int .i64 py] 26) = _)⟩
  have hBW : Bel w W := by rw [HW.out]; exact bel_alloc (Bel.refl _) _
  have XP : Blk W w.heap.size [.int .i64 px, .int .i64 py] := by rw [HW.out]; exact Blk.new w [.int .i64 px, .int .i64 py] _
  have hRp : ∀ w', Bel W w' → w'.cell? ⟨w.heap.size, 0, none⟩ = some (.int .i64 px) ∧ w'.cell? ⟨w.heap.size, 1, none⟩ = some (.int .i64 py) := fun w' h => ⟨(XP.bel h).cell 0 (by simp), (XP.bel h).cell 1 (by simp)⟩
  have hTW := hT.bel ringE hBW
  have hpk := pOk_iff.2 hp
  clear hT
  go_enter Try.func7, Try.ntmps7
  go_wp2_with fail
  rw [← HW.out]
  refine (ringsOk_any _ _ _ l bs _ hTW hn (by omega) hs).mono ?_
  rintro e w1 ⟨rfl, hb1⟩
  rw [hok]
  go_wp2_with fail
  refine (pointOk_any _ _ _).mono ?_
  rintro e w2 ⟨rfl, hb2⟩
  rw [hpk]
  have hB2 := bel_step hb1 hb2
  clear hok hn hpk hs hRp
  go_wp2
  go_loopw [5, 21] (fun o i wr => ∃ k : Nat, k ≤ n ∧ i = .int .i64 k ∧ o = .int .i64 (cntR l px py k) ∧ (∀ j (h : j < l.length), j < k → ∀ i, i + 1 < l[j].row.length → stOn l[j].row px py i = false) ∧ Bel W wr) (fun _ i _ => n - (intOf i).toNat)
  case atStart => exact ⟨0, Nat.zero_le _, rfl, rfl, fun j _ hj => absurd hj (Nat.not_lt_zero _), hB2⟩
  case round =>
    obtain ⟨k, hk, rfl, rfl, hall, hbel⟩ := hrel
    have H : Hid (∀ j (h : j < l.length), j < k → ∀ i, i + 1 < l[j].row.length → stOn l[j].row px py i = false) := hall
    clear hall hb1 hb2 hB2
    obtain ⟨C, HCk⟩ : ∃ C, Hid (cntR l px py k = C) := ⟨_, (rfl : cntR l px py k = _)⟩
    rw [HCk.out]
    have hC : C ≤ 80000 := by rw [← HCk.out]; have := HCL.out k (by rw [Hn.out]; exact hk); omega
    by_cases hlt : k < n
    · have hkl : k < l.length := by rw [Hn.out]; exact hlt
      obtain ⟨b, off, f, rfl, hb, hx⟩ := (hTW.bel ringE hbel).out hkl
      obtain ⟨a0, k0, _, c0, c1, t0⟩ := hx k hkl
      obtain ⟨L, HL⟩ : ∃ L, Hid (l[k].row = L) := ⟨_, (rfl : l[k].row = _)⟩
      have HRk := HR.out k hkl
      have HC1 := cntR_at (rs := l) (px := px) (py := py) hkl
      rw [HL.out] at c0 t0 HRk HC1
      have hm0 : L.length ≤ 2000 := HRk.1
      have HP : Hid (∀ i, i < L.length → POk (lx L i) (ly L i)) := HRk.2
      have HC : Hid (cntR l px py (k + 1) = cntR l px py k + cntT L px py (L.length - 1)) := HC1
      obtain ⟨m, hm1⟩ : ∃ m, L.length = m := ⟨_, rfl⟩
      obtain ⟨wo, Ho⟩ : ∃ V : World, Hid (V = wr.alloc (.cells #[.slice a0 m k0, .bool l[k].inner] 32)) := ⟨_, (rfl : wr.alloc (.cells #[.slice a0 m k0, .bool l[k].inner] 32) = _)⟩
      have hBo : Bel wr wo := by rw [Ho.out]; exact bel_alloc (Bel.refl _) _
      have XR : Blk wo wr.heap.size [.slice a0 m k0, .bool l[k].inner] := by rw [Ho.out]; exact Blk.new wr [.slice a0 m k0, .bool l[k].inner] _
      have hP0 := (t0.bel ptE hBo).pts
      rw [hm1] at c0 hP0 hm0
      have HM : Hid (L.length = m) := hm1
      obtain ⟨rr, hrr⟩ : ∃ r, wr.heap.size = r := ⟨_, rfl⟩
      have hBwo : Bel W wo := bel_step hbel hBo
      clear hx HRk HC1 t0 hm1 hTW
      go_wp2
      rw [← Ho.out]
      rw [hrr] at XR
      clear hrr Ho hBo c0 c1 hbel hb
      go_loopw [5, 8] (fun o i wr => ∃ j : Nat, (j + 1 ≤ m ∨ j = 0) ∧ i = .int .i64 ((j : Int) + 1) ∧ o = .int .i64 ((C + cntT L px py j : Nat) : Int) ∧ (∀ i, i < j → stOn L px py i = false) ∧ Bel wo wr) (fun _ i _ => m - (intOf i).toNat)
      case atStart => exact ⟨0, by omega, rfl, rfl, fun i hi => absurd hi (Nat.not_lt_zero _), Bel.refl _⟩
      case round =>
        obtain ⟨j, hj, rfl, rfl, hall, hbq⟩ := hrel
        have HA : Hid (∀ i, i < j → stOn L px py i = false) := hall
        clear hall
        have hD1 := cntT_le L px py j
        obtain ⟨D, HD⟩ : ∃ D, Hid (C + cntT L px py j = D) := ⟨_, (rfl : C + cntT L px py j = _)⟩
        have hD : D ≤ 82000 := by rw [← HD.out]; omega
        rw [HD.out]
        clear hD1
        have hcr : ∀ w', Bel wo w' → w'.cell? ⟨rr, 0, none⟩ = some (.slice a0 m k0) := fun w' h => (XR.bel h).cell 0 (by simp)
        by_cases hlj : j + 1 < m
        · rcases hP0.bel hbq with h | ⟨b', off', rfl, h2, h3⟩
          · omega
          · obtain ⟨cx, cy⟩ := h3 j (by omega)
            obtain ⟨cx', cy'⟩ := h3 (j + 1) hlj
            have pa := HP.out j (by have := HM.out; omega)
            have pb := HP.out (j + 1) (by have := HM.out; omega)
            obtain ⟨r, Hr⟩ : ∃ r, Hid (stOn L px py j = r) := ⟨_, (rfl : stOn L px py j = _)⟩
            obtain ⟨t, Ht⟩ : ∃ t, Hid (stRt L px py j = t) := ⟨_, (rfl : stRt L px py j = _)⟩
            have HO1 : Hid (C + cntT L px py (j + 1) = D + t.toNat) := by
              rw [← Ht.out, ← HD.out]
              show C + (cntT L px py j + (stRt L px py j).toNat) = _
              rw [Nat.add_assoc]
            have HS : Hid (r = true → insR l px py = 0) := fun e => by
              have h1 : onR l px py = true := onR_true (k := k) (i := j) hkl (by rw [HL.out, HM.out]; exact hlj) (by rw [HL.out, Hr.out]; exact e)
              unfold insR
              rw [h1]
              rfl
            have HrS : Hid (stOn L px py j = r) := Hr.out
            unfold stOn at Hr
            unfold stRt at Ht
            obtain ⟨x0, hx0⟩ : ∃ x, lx L j = x := ⟨_, rfl⟩
            obtain ⟨y0, hy0⟩ : ∃ x, ly L j = x := ⟨_, rfl⟩
            obtain ⟨x1, hx1⟩ : ∃ x, lx L (j + 1) = x := ⟨_, rfl⟩
            obtain ⟨y1, hy1⟩ : ∃ x, ly L (j + 1) = x := ⟨_, rfl⟩
            rw [hx0, hy0, hx1, hy1] at Hr Ht
            rw [hx0, hy0] at pa
            rw [hx1, hy1] at pb
            rw [hx0] at cx; rw [hy0] at cy; rw [hx1] at cx'; rw [hy1] at cy'
            have hlt' : (j : Int) + 1 < (m : Int) := by omega
            have hltj : (j : Int) < (m : Int) := by omega
            have hj0 : (0 : Int) ≤ (j : Int) := by omega
            have hj1 : (0 : Int) ≤ (j : Int) + 1 := by omega
            have htn : ((j : Int) + 1).toNat = j + 1 := by omega
            have hwj : IntKind.i64.wrap (j : Int) = j := by rw [IntKind.wrap_i64]; omega
            have hwj1 : IntKind.i64.wrap ((j : Int) + 1) = j + 1 := by rw [IntKind.wrap_i64]; omega
            have hcr1 := hcr _ hbq
            have hcr0 : rr < wr.heap.size := bel_lt hbq XR.lt
            have hR : ∀ w', Bel wr w' → w'.cell? ⟨b', off' + j * 2, none⟩ = some (.int .i64 x0) ∧ w'.cell? ⟨b', off' + j * 2 + 1, none⟩ = some (.int .i64 y0) ∧ w'.cell? ⟨b', off' + (j + 1) * 2, none⟩ = some (.int .i64 x1) ∧ w'.cell? ⟨b', off' + (j + 1) * 2 + 1, none⟩ = some (.int .i64 y1) ∧ w'.cell? ⟨rr, 0, none⟩ = some (.slice (some ⟨b', off', none⟩) m k0) :=
              fun w' h => ⟨bel_cell h h2 cx, bel_cell h h2 cy, bel_cell h h2 cx', bel_cell h h2 cy', bel_cell h hcr0 hcr1⟩
            have g0 : Bel wr wr := Bel.refl _
            clear h3 h2 hx0 hy0 hx1 hy1 cx cy cx' cy' hcr hcr1
            go_upto_region 10 with fail
            go_cut [9, 10] (fun v9 v10 wx => ∃ B9 B10, v9 = .pointer (some ⟨B9, 0, none⟩) ∧ v10 = .pointer (some ⟨B10, 0, none⟩) ∧ Blk wx B9 [.int .i64 x0, .int .i64 y0] ∧ Blk wx B10 [.int .i64 x1, .int .i64 y1] ∧ Bel wr wx)
            case first =>
              go_wp2
              go_region_held3 (fun w' => Bel wr w') (repeat (first | exact g0 | refine Bel.drew ?_ | refine bel_alloc ?_ _ | refine bel_set2 ?_ ?_ _ | refine bel_set3 ?_ ?_ _ | assumption | refine bel_then (by assumption) ?_))
                (fail)
              all_goals
                go_wp2_with fail
                go_meet
                first
                  | exact ⟨_, _, rfl, rfl, ((Blk.new wr [.int .i64 x0, .int .i64 y0] _).bel (bel_alloc (Bel.refl _) _)).bel (Bel.drew (Bel.refl _)), (Blk.new1 wr _ [.int .i64 x1, .int .i64 y1] _).bel (Bel.drew (Bel.refl _)), Bel.drew (bel_alloc (bel_alloc (Bel.refl _) _) _)⟩
                  | exact ⟨_, _, rfl, rfl, (Blk.new1 wr _ [.int .i64 x0, .int .i64 y0] _).bel (Bel.drew (Bel.refl _)), ((Blk.new wr [.int .i64 x1, .int .i64 y1] _).bel (bel_alloc (Bel.refl _) _)).bel (Bel.drew (Bel.refl _)), Bel.drew (bel_alloc (bel_alloc (Bel.refl _) _) _)⟩
            case rest =>
              obtain ⟨B9, B10, rfl, rfl, X9, X10, hbc⟩ := hcut
              have hBc : Bel wo wc := bel_step hbq hbc
              have XC : Blk wc w.heap.size [.int .i64 px, .int .i64 py] := XP.bel (bel_step hBwo hBc)
              have hR2 : ∀ w', Bel wc w' → w'.cell? ⟨B9, 0, none⟩ = some (.int .i64 x0) ∧ w'.cell? ⟨B9, 1, none⟩ = some (.int .i64 y0) ∧ w'.cell? ⟨B10, 0, none⟩ = some (.int .i64 x1) ∧ w'.cell? ⟨B10, 1, none⟩ = some (.int .i64 y1) ∧ w'.cell? ⟨w.heap.size, 0, none⟩ = some (.int .i64 px) ∧ w'.cell? ⟨w.heap.size, 1, none⟩ = some (.int .i64 py) :=
                fun w' h => ⟨(X9.bel h).cell 0 (by simp), (X9.bel h).cell 1 (by simp), (X10.bel h).cell 0 (by simp), (X10.bel h).cell 1 (by simp), (XC.bel h).cell 0 (by simp), (XC.bel h).cell 1 (by simp)⟩
              have gc : Bel wc wc := Bel.refl _
              clear hR X9 X10 XC g0
              go_wp2_with fail
              refine (liesOn_any _ _ _ _ _ _ _ pa pb hp).mono ?_
              rintro e w3 ⟨rfl, hb3⟩
              rw [Hr.out]
              cases r
              · have HA1 : Hid (∀ i, i < j + 1 → stOn L px py i = false) := fun i hi => by
                  by_cases e : i = j
                  · subst e; exact HrS.out
                  · exact HA.out i (by omega)
                go_wp2_with fail
                refine (liesRight_any _ _ _ _ _ _ _ pa pb hp).mono ?_
                rintro e w4 ⟨rfl, hb4⟩
                rw [Ht.out]
                have hB4 : Bel wo w4 := bel_step hBc (bel_step hb3 hb4)
                clear hR2 gc hb3 hb4
                cases t
                · go_wp2
                  go_roundw
                  case rel => exact ⟨j + 1, by omega, by go_num, by rw [HO1.out]; rfl, HA1.out, hB4⟩
                  case measure => simp [intOf]; omega
                · go_wp2
                  go_roundw
                  case rel => exact ⟨j + 1, by omega, by go_num, by rw [HO1.out]; rfl, HA1.out, hB4⟩
                  case measure => simp [intOf]; omega
              · have HZ := HS.out rfl
                have HZZ : Hid (insR l px py = 0) := HZ
                clear HZ
                go_wp2
                go_ret
                exact ⟨ret_num HZZ.out.symm, bel_step hBW (bel_step hBwo (bel_step hBc hb3))⟩
        · obtain rfl : j = m - 1 := by omega
          have hBq : Bel W wr := bel_step hBwo hbq
          have hcr1 := hcr _ hbq
          have HE : Hid (cntR l px py (k + 1) = D) := by rw [HC.out, HM.out, HCk.out]; exact HD.out
          have HF : Hid (∀ j' (h : j' < l.length), j' < k + 1 → ∀ i, i + 1 < l[j'].row.length → stOn l[j'].row px py i = false) := fun j' h h' i hi => by
            by_cases e : j' = k
            · subst e
              rw [HL.out] at hi ⊢
              exact HA.out i (by have := HM.out; omega)
            · exact H.out j' h (by omega) i hi
          clear hcr
          go_wp2
          go_roundw
          case rel => exact ⟨k + 1, by omega, by go_num, by rw [HE.out], HF.out, hBq⟩
          case measure => simp [intOf]; omega
    · have e : k = n := by omega
      subst e
      have HN : Hid (insR l px py = if C % 2 = 1 then 1 else -1) := (by
        have h1 : onR l px py = false := onR_false fun k' hk' i hi => H.out k' hk' (by have := Hn.out; omega) i hi
        unfold insR
        rw [h1, Hn.out, HCk.out]
        rfl : insR l px py = if C % 2 = 1 then 1 else -1)
      have ht := tmod2 C
      clear hTW
      by_cases hodd : C % 2 = 1
      · have HZ : Hid (insR l px py = 1) := by rw [HN.out, if_pos hodd]; exact rfl
        rw [hodd] at ht
        go_wp2
        go_ret
        exact ⟨ret_num HZ.out.symm, bel_step hBW hbel⟩
      · have HZ : Hid (insR l px py = -1) := by rw [HN.out, if_neg hodd]; exact rfl
        have hz : C % 2 = 0 := by omega
        rw [hz] at ht
        go_wp2
        go_ret
        exact ⟨ret_num HZ.out.symm, bel_step hBW hbel⟩

set_option maxHeartbeats 1000000 in
theorem inside_any (a : Option Addr) (n c : Nat) (l : List RingD) (bs : List Nat) (px py : Int) (w : World) (hT : RingL w a l bs) (hn : l.length = n) (hm : n ≤ 1048576) (hs : ∀ i (h : i < l.length), l[i].row.length ≤ 1048576) :
    Calls Try.prog 7 #[.slice a n c, pt px py] w fun e w' => e = .returned (.int .i64 (insOf l px py)) ∧ Bel w w' := by
  cases hr : rgsB l
  · obtain ⟨W, HW⟩ : ∃ W, Hid (W = w.alloc (.cells #[.int .i64 px, .int .i64 py] 26)) := ⟨_, (rfl : w.alloc (.cells #[.int .i64 px, .int .i64 py] 26) = _)⟩
    have hBW : Bel w W := by rw [HW.out]; exact bel_alloc (Bel.refl _) _
    have hTW := hT.bel ringE hBW
    have hd : insOf l px py = -1 := by simp [insOf, hr]
    rw [hd]; clear hd hT
    go_enter Try.func7, Try.ntmps7
    go_wp2_with fail
    rw [← HW.out]
    refine (ringsOk_any _ _ _ l bs _ hTW hn hm hs).mono ?_
    rintro e w1 ⟨rfl, hb1⟩
    rw [hr]
    go_wp2
    go_ret
    exact ⟨rfl, bel_step hBW hb1⟩
  · cases hp : pok px py
    · obtain ⟨W, HW⟩ : ∃ W, Hid (W = w.alloc (.cells #[.int .i64 px, .int .i64 py] 26)) := ⟨_, (rfl : w.alloc (.cells #[.int .i64 px, .int .i64 py] 26) = _)⟩
      have hBW : Bel w W := by rw [HW.out]; exact bel_alloc (Bel.refl _) _
      have XP : Blk W w.heap.size [.int .i64 px, .int .i64 py] := by rw [HW.out]; exact Blk.new w [.int .i64 px, .int .i64 py] _
      have hR : ∀ w', Bel W w' → w'.cell? ⟨w.heap.size, 0, none⟩ = some (.int .i64 px) ∧ w'.cell? ⟨w.heap.size, 1, none⟩ = some (.int .i64 py) := fun w' h => ⟨(XP.bel h).cell 0 (by simp), (XP.bel h).cell 1 (by simp)⟩
      have hTW := hT.bel ringE hBW
      have hd : insOf l px py = -1 := by simp [insOf, hp]
      rw [hd]; clear hd hT
      go_enter Try.func7, Try.ntmps7
      go_wp2_with fail
      rw [← HW.out]
      refine (ringsOk_any _ _ _ l bs _ hTW hn hm hs).mono ?_
      rintro e w1 ⟨rfl, hb1⟩
      rw [hr]
      go_wp2_with fail
      refine (pointOk_any _ _ _).mono ?_
      rintro e w2 ⟨rfl, hb2⟩
      rw [hp]
      go_wp2
      go_ret
      exact ⟨rfl, bel_step hBW (bel_step hb1 hb2)⟩
    · have hd : insOf l px py = insR l px py := by simp [insOf, hr, hp]
      rw [hd]
      exact insideR_any _ _ _ l bs _ _ _ hT hn hr (pOk_iff.1 hp)
end Go.Proofs.Ytkpgcnfokohhiaa
