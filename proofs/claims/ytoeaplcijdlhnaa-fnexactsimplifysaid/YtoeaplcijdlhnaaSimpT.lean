/-
  Simplify in the model: the contract of its recursion, and of the whole.
-/
import Derived.Test.YtoeaplcijdlhnaaSimpS
namespace Go.Proofs.Ytoeaplcijdlhnaa
open Go.RowKit

theorem sl_len {s : Int} (h0 : 0 ≤ s) {f : Nat} {X Y : Nat → Int} {n : Nat} (hn : n ≤ f) : (sl s f X Y n).length ≤ n := by
  by_cases h : n = 0
  · subst h; simp [sl]
  · rw [sl_some h, List.length_append]
    have := kp_len h0 f X Y n hn
    simp
    omega
theorem sl_two_len {s : Int} (h0 : 0 ≤ s) {f : Nat} {X Y : Nat → Int} {n : Nat} (hn : n ≤ f) (h2 : 2 ≤ n) : 2 ≤ (sl s f X Y n).length := by
  obtain ⟨t, e⟩ := kp_head h0 f X Y n hn h2
  rw [sl_some (by omega), e]
  simp
/-- Two rows, one behind the other. -/
theorem Own.both {base : Nat} {w : World} {v : Value} {ps qs : List (Int × Int)} {m : Nat} (hm : m = qs.length) (h : w.ownsRow base 25 2 v (ps.length + m) (cellsP ps ++ cellsP qs)) : Own base w v (ps ++ qs) := by
  subst hm
  unfold Own
  rw [cellsP_app, List.length_append]
  exact h
theorem tail_cells {w : World} {g : Nat} {ps : List (Int × Int)} (h : ∀ i, i < ps.length → w.cell? ⟨g, i * 2, none⟩ = some (.int .i64 (ps.getD i (0, 0)).1) ∧ w.cell? ⟨g, i * 2 + 1, none⟩ = some (.int .i64 (ps.getD i (0, 0)).2)) :
    ∀ (j : Nat) (u : Value), (cellsP ps.tail)[j]? = some u → w.cell? ((⟨g, 2, none⟩ : Addr).add j) = some u := by
  apply news_list
  intro i hi
  rw [List.length_tail] at hi
  have e : ps.tail.getD i (0, 0) = ps.getD (i + 1) (0, 0) := by simp [List.getD, List.getElem?_tail]
  rw [e]
  obtain ⟨c0, c1⟩ := h (i + 1) (by omega)
  rw [show (i + 1) * 2 = 2 + i * 2 by omega] at c0 c1
  exact ⟨c0, c1⟩

theorem far_field (l a x y f : Int) (w : World) : (Instr.field 44 (ft l a x y f) 3).run Try.prog w = .ok (.int .i64 f) w := by kernel_rfl

set_option maxHeartbeats 1000000 in
theorem l1Simplify_few {s : Int} (s0 : 0 ≤ s) (f n : Nat) (hnf : n ≤ f) (h : n < 3) (b off c : Nat) (X Y : Nat → Int) (w : World) (hP : Pts w (some ⟨b, off, none⟩) n X Y) :
    Calls Try.prog 54 #[.slice (some ⟨b, off, none⟩) n c, .int .i64 s] w fun e w' => ∃ v', e = .returned v' ∧ Own w.heap.size w' v' (sl s f X Y n) ∧ Bel w w' := by
  have h' : (n : Int) < 3 := by omega
  rw [← sl_few s0 h hnf]
  obtain ⟨i0, hi, hz0, hz1, hz2⟩ := info_parts infoP
  have HO : Hid (Own w.heap.size (w.alloc (.cells #[] 25)) (.slice (some ⟨w.heap.size, 0, none⟩) 0 0) []) := World.ownsRow_lit w #[] 0 (Nat.le_refl _) (Nat.zero_le _) rfl
  have HN : Hid (∀ (j : Nat) (u : Value), (cellsP (ptsL X Y n))[j]? = some u → (w.alloc (.cells #[] 25)).cell? ((⟨b, off, none⟩ : Addr).add j) = some u) := (hP.bel (bel_alloc (Bel.refl _) _)).news
  go_enter Try.func54, Try.ntmps54
  go_wp2_with (first
    | (at_builtin; refine wpList_append_own _ rfl _ _ 35 rfl w.heap.size 25 i0 (.agg #[.int .i64 0, .int .i64 0]) 2 16 Try.underlying35 hi hz0 hz1 hz2 rfl (by decide) _ _ _ rfl HO.out ⟨b, off, none⟩ n c (cellsP (ptsL X Y n)) rfl (by rw [cellsP_len, ptsL_len]) HN.out (cellsP_one _) (by unfold maxLen; simp; omega) (by simp; omega) (bel_alloc (Bel.refl _) _).out.size ?_)
    | go_in)
  intro v' w2 hown' hgrow _
  have hown2 : Own w.heap.size w2 v' (ptsL X Y n) := by
    have e : cellsP [] = [] := rfl
    rw [e, List.nil_append] at hown'
    unfold Own
    rw [ptsL_len]
    exact hown'
  have hB2 : Bel w w2 := bel_grown (bel_alloc (Bel.refl _) _) hgrow HO.out.row
  generalize hq : ptsL X Y n = qs at hown2
  have HQ : Hid (ptsL X Y n = qs) := hq
  obtain ⟨a2, c2, rfl⟩ := hown2.shape
  have HO2 : Hid (Own w.heap.size w2 (.slice a2 qs.length c2) qs) := hown2
  clear hown2 hown' hgrow HO HN hq
  go_wp2
  go_ret
  exact ⟨_, rfl, by rw [HQ.out]; exact HO2.out, hB2⟩

set_option maxRecDepth 100000 in
set_option maxHeartbeats 4000000 in
theorem l1Simplify_any {s : Int} (s0 : 0 ≤ s) : ∀ (f n : Nat), n ≤ f → ∀ (b off c : Nat) (X Y : Nat → Int) (w : World), Pts w (some ⟨b, off, none⟩) n X Y → n ≤ c → n ≤ 2000 → (∀ i, i < n → POk (X i) (Y i)) →
    Calls Try.prog 54 #[.slice (some ⟨b, off, none⟩) n c, .int .i64 s] w fun e w' => ∃ v', e = .returned v' ∧ Own w.heap.size w' v' (sl s f X Y n) ∧ Bel w w' := by
  intro f
  induction f with
  | zero =>
    intro n hnf b off c X Y w hP hc hn hok
    exact l1Simplify_few s0 0 n hnf (by omega) b off c X Y w hP
  | succ f ih =>
    intro n hnf b off c X Y w hP hc hn hok
    by_cases h : n < 3
    · exact l1Simplify_few s0 (f + 1) n hnf h b off c X Y w hP
    · have IH : Hid _ := ih
      clear ih
      obtain ⟨m, rfl⟩ : ∃ m, n = m + 2 := ⟨n - 2, by omega⟩
      rcases hP with hz | ⟨b', off', e, h2, h3⟩
      · omega
      cases e
      have h' : ¬ (m : Int) + 2 < 3 := by omega
      have HP : Hid (∀ i, i < m + 2 → w.cell? ⟨b, off + i * 2, none⟩ = some (.int .i64 (X i)) ∧ w.cell? ⟨b, off + i * 2 + 1, none⟩ = some (.int .i64 (Y i))) := h3
      have a0 := (h3 0 (by omega)).1
      have a1 := (h3 0 (by omega)).2
      simp only [Nat.zero_mul, Nat.add_zero] at a0 a1
      have d0 := (h3 (m + 1) (by omega)).1
      have d1 := (h3 (m + 1) (by omega)).2
      have pa := hok 0 (by omega)
      have pb := hok (m + 1) (by omega)
      have hlast : IntKind.i64.wrap ((m : Int) + 2 - 1) = (m : Int) + 1 := by rw [IntKind.wrap_i64]; omega
      have hlast2 : IntKind.i64.wrap ((m : Int) + 1) = (m : Int) + 1 := by rw [IntKind.wrap_i64]; omega
      have hm2 : (m : Int) + 1 < (m : Int) + 2 := by omega
      have hm0 : (0 : Int) < (m : Int) + 2 := by omega
      have hj2 : (0 : Int) ≤ (m : Int) + 1 := by omega
      have htm : ((m : Int) + 1).toNat = m + 1 := by omega
      have hR : ∀ w', Bel w w' → w'.cell? ⟨b, off, none⟩ = some (.int .i64 (X 0)) ∧ w'.cell? ⟨b, off + 1, none⟩ = some (.int .i64 (Y 0)) ∧ w'.cell? ⟨b, off + (m + 1) * 2, none⟩ = some (.int .i64 (X (m + 1))) ∧ w'.cell? ⟨b, off + (m + 1) * 2 + 1, none⟩ = some (.int .i64 (Y (m + 1))) :=
        fun w' h => ⟨bel_cell h h2 a0, bel_cell h h2 a1, bel_cell h h2 d0, bel_cell h h2 d1⟩
      have g0 : Bel w w := Bel.refl _
      clear h3 a0 a1 d0 d1
      go_enter Try.func54, Try.ntmps54
      go_wp2
      go_region_held3 (fun w' => Bel w w') (with_reducible (repeat (first | exact g0 | refine Bel.drew ?_ | refine bel_alloc ?_ _ | assumption))) (fail)
      clear hR g0
      have hbE : Bel (w.alloc (.cells #[.int .i64 (X 0), .int .i64 (Y 0), .int .i64 (X (m + 1)), .int .i64 (Y (m + 1))] 25)) (w.alloc (.cells #[.int .i64 (X 0), .int .i64 (Y 0), .int .i64 (X (m + 1)), .int .i64 (Y (m + 1))] 25)).drew := Bel.drew (Bel.refl _)
      have hE : Pts (w.alloc (.cells #[.int .i64 (X 0), .int .i64 (Y 0), .int .i64 (X (m + 1)), .int .i64 (Y (m + 1))] 25)).drew (some ⟨w.heap.size, 0, none⟩) 2 (fun j => if j = 0 then X 0 else X (m + 1)) (fun j => if j = 0 then Y 0 else Y (m + 1)) := by
        refine .inr ⟨w.heap.size, 0, rfl, bel_lt hbE (by simp), fun i hi => ?_⟩
        match i, hi with
        | 0, _ => exact ⟨bel_cell hbE (by simp) (by simp [go_sem]), bel_cell hbE (by simp) (by simp [go_sem])⟩
        | 1, _ => exact ⟨bel_cell hbE (by simp) (by simp [go_sem]), bel_cell hbE (by simp) (by simp [go_sem])⟩
      have hEO : Own w.heap.size (w.alloc (.cells #[.int .i64 (X 0), .int .i64 (Y 0), .int .i64 (X (m + 1)), .int .i64 (Y (m + 1))] 25)).drew (.slice (some ⟨w.heap.size, 0, none⟩) 2 2) [(X 0, Y 0), (X (m + 1), Y (m + 1))] :=
        Own.bel (World.ownsRow_lit w #[.int .i64 (X 0), .int .i64 (Y 0), .int .i64 (X (m + 1)), .int .i64 (Y (m + 1))] 2 (Nat.le_refl _) (by unfold maxLen; omega) rfl) hbE
      have hB0 : Bel w (w.alloc (.cells #[.int .i64 (X 0), .int .i64 (Y 0), .int .i64 (X (m + 1)), .int .i64 (Y (m + 1))] 25)).drew := Bel.drew (bel_alloc (Bel.refl _) _)
      generalize (w.alloc (.cells #[.int .i64 (X 0), .int .i64 (Y 0), .int .i64 (X (m + 1)), .int .i64 (Y (m + 1))] 25)).drew = W0 at hE hEO hB0 ⊢
      have HE : Hid (Pts W0 (some ⟨w.heap.size, 0, none⟩) 2 (fun j => if j = 0 then X 0 else X (m + 1)) (fun j => if j = 0 then Y 0 else Y (m + 1))) := hE
      have HEO : Hid (Own w.heap.size W0 (.slice (some ⟨w.heap.size, 0, none⟩) 2 2) [(X 0, Y 0), (X (m + 1), Y (m + 1))]) := hEO
      clear hbE hE hEO
      go_wp2
      go_loopw [7, 8, 9] (fun t d i wr => ∃ k : Nat, k ≤ m ∧ t = .int .i64 (gA s X Y (m + 1) k) ∧ d = .int .i64 (gD s X Y (m + 1) k) ∧ i = .int .i64 ((k : Int) + 1) ∧ Bel W0 wr) (fun _ _ i _ => m + 1 - (intOf i).toNat)
      case atStart => exact ⟨0, by omega, rfl, rfl, rfl, Bel.refl _⟩
      case round =>
        obtain ⟨k, hk, rfl, rfl, rfl, hbel⟩ := hrel
        by_cases hlt : k < m
        · have pc := hok (k + 1) (by omega)
          have c0 := bel_cell (bel_step hB0 hbel) h2 (HP.out (k + 1) (by omega)).1
          have c1 := bel_cell (bel_step hB0 hbel) h2 (HP.out (k + 1) (by omega)).2
          have hk1 : (k : Int) + 1 < (m : Int) + 1 := by omega
          have hk2 : (k : Int) + 1 < (m : Int) + 2 := by omega
          have hj1 : (0 : Int) ≤ (k : Int) + 1 := by omega
          have htn : ((k : Int) + 1).toNat = k + 1 := by omega
          go_wp2_with fail
          refine (l1Near_two _ _ X Y (m + 1) (k + 1) _ (HE.out.bel hbel) pa pb pc).mono ?_
          rintro e w1 ⟨l, fa, fx, fy, rfl, hb1⟩
          have hH := bel_step hbel hb1
          clear c0 c1 hb1
          have hfld := fun w' => far_field l fa fx fy (dI X Y (m + 1) (k + 1)) w'
          by_cases hf : gD s X Y (m + 1) k < dI X Y (m + 1) (k + 1)
          · have E1 : Hid (gA s X Y (m + 1) (k + 1) = k + 1) := if_pos hf
            have E2 : Hid (gD s X Y (m + 1) (k + 1) = dI X Y (m + 1) (k + 1)) := if_pos hf
            go_wp2
            go_roundw
            case rel => exact ⟨k + 1, by omega, by rw [E1.out]; go_num, by rw [E2.out], by go_num, hH⟩
            case measure => simp [intOf]; omega
          · have E1 : Hid (gA s X Y (m + 1) (k + 1) = gA s X Y (m + 1) k) := if_neg hf
            have E2 : Hid (gD s X Y (m + 1) (k + 1) = gD s X Y (m + 1) k) := if_neg hf
            go_wp2
            go_roundw
            case rel => exact ⟨k + 1, by omega, by rw [E1.out], by rw [E2.out], by go_num, hH⟩
            case measure => simp [intOf]; omega
        · obtain rfl : k = m := by omega
          have hBw := bel_step hB0 hbel
          by_cases hfar : gD (-1) X Y (k + 1) k ≤ s
          · obtain ⟨e1, e2⟩ := (far_same s0 X Y (k + 1) k).1 hfar
            have HS : Hid (sl s (f + 1) X Y (k + 2) = [(X 0, Y 0), (X (k + 1), Y (k + 1))]) := by
              show sl s (f + 1) X Y (k + 2) = _
              rw [sl_some (by omega), kp_one (by omega) hfar]
              rfl
            have HO2 : Hid (Own w.heap.size wr (.slice (some ⟨w.heap.size, 0, none⟩) 2 2) [(X 0, Y 0), (X (k + 1), Y (k + 1))]) := Own.bel HEO.out hbel
            rw [e1, e2]
            clear e1 e2
            go_wp2
            go_ret
            exact ⟨_, rfl, by rw [HS.out]; exact HO2.out, hBw⟩
          · obtain ⟨e1, e2, a1, a2⟩ := (far_same s0 X Y (k + 1) k).2 (by omega)
            have HS : Hid (sl s (f + 1) X Y (k + 2) = sl s f X Y (gA (-1) X Y (k + 1) k + 1) ++ (sl s f (fun i => X (gA (-1) X Y (k + 1) k + i)) (fun i => Y (gA (-1) X Y (k + 1) k + i)) (k + 2 - gA (-1) X Y (k + 1) k)).tail) := sl_two s0 (n := k + 2) hnf (by omega) hfar
            rw [e2]
            clear e2 e1
            generalize gA (-1) X Y (k + 1) k = A at *
            have hw : IntKind.i64.wrap ((A : Int) + 1) = (A : Int) + 1 := by rw [IntKind.wrap_i64]; omega
            have hA0 : (0 : Int) ≤ (A : Int) := by omega
            have hAz : ((A : Int) == 0) = false := by simp; omega
            have hAz' : ¬ (A : Int) = 0 := by omega
            have hA1 : (0 : Int) ≤ (A : Int) + 1 := by omega
            have hA2 : (A : Int) + 1 ≤ (c : Int) := by omega
            have hA3 : (A : Int) ≤ (k : Int) + 2 := by omega
            have hA4 : (A : Int) < (c : Int) := by omega
            have hA5 : (k : Int) + 2 ≤ (c : Int) := by omega
            have htn : ((A : Int) + 1).toNat = A + 1 := by omega
            have hP1 : Pts wr (some ⟨b, off, none⟩) (A + 1) X Y := .inr ⟨b, off, rfl, bel_lt hBw h2, fun i hi => ⟨bel_cell hBw h2 (HP.out i (by omega)).1, bel_cell hBw h2 (HP.out i (by omega)).2⟩⟩
            go_wp2_with fail
            refine (IH.out (A + 1) (by omega) b off c X Y _ hP1 (by omega) (by omega) (fun i hi => hok i (by omega))).mono ?_
            rintro e w2 ⟨v2, rfl, hown2, hb2⟩
            have hB2 := bel_step hBw hb2
            have hP2 : Pts w2 (some ⟨b, off + A * 2, none⟩) (k + 2 - A) (fun i => X (A + i)) (fun i => Y (A + i)) := by
              refine .inr ⟨b, off + A * 2, rfl, bel_lt hB2 h2, fun i hi => ?_⟩
              have := HP.out (A + i) (by omega)
              rw [show off + (A + i) * 2 = off + A * 2 + i * 2 by omega] at this
              exact ⟨bel_cell hB2 h2 this.1, bel_cell hB2 h2 this.2⟩
            have hlq := sl_len s0 (X := X) (Y := Y) (show A + 1 ≤ f by omega)
            generalize hq : sl s f X Y (A + 1) = qs at hown2 hlq
            have HQ : Hid (sl s f X Y (A + 1) = qs) := hq
            have hown2 := Own.base hown2 hBw.out.size
            obtain ⟨a3, c3, rfl⟩ := hown2.shape
            have HO2 : Hid (Own w.heap.size w2 (.slice a3 qs.length c3) qs) := hown2
            clear hown2 hP1 hq
            go_wp2_with fail
            refine (IH.out (k + 2 - A) (by omega) b (off + A * 2) (c - A) (fun i => X (A + i)) (fun i => Y (A + i)) _ hP2 (by omega) (by omega) (fun i hi => hok (A + i) (by omega))).mono ?_
            rintro e w3 ⟨v3, rfl, hown3, hb3⟩
            have hB3 := bel_step hB2 hb3
            have hlr := sl_len s0 (X := fun i => X (A + i)) (Y := fun i => Y (A + i)) (show k + 2 - A ≤ f by omega)
            have hlr2 := sl_two_len s0 (X := fun i => X (A + i)) (Y := fun i => Y (A + i)) (show k + 2 - A ≤ f by omega) (by omega)
            generalize hr : sl s f (fun i => X (A + i)) (fun i => Y (A + i)) (k + 2 - A) = rs at hown3 hlr hlr2
            have HR : Hid (sl s (f + 1) X Y (k + 2) = qs ++ rs.tail) := by
              show sl s (f + 1) X Y (k + 2) = qs ++ rs.tail
              rw [HS.out, HQ.out, hr]
            obtain ⟨g, c4, rfl, hc4, hg, hcl⟩ := hown3.block (by omega)
            have HN : Hid (∀ (j : Nat) (u : Value), (cellsP rs.tail)[j]? = some u → w3.cell? ((⟨g, 2, none⟩ : Addr).add j) = some u) := tail_cells hcl
            have HO3 : Hid (Own w.heap.size w3 (.slice a3 qs.length c3) qs) := Own.bel HO2.out hb3
            obtain ⟨i0, hi, hz0, hz1, hz2⟩ := info_parts infoP
            have hr1 : (1 : Int) ≤ (rs.length : Int) := by omega
            have hr2 : (1 : Int) < (c4 : Int) := by omega
            have hr3 : (rs.length : Int) ≤ (c4 : Int) := by omega
            clear hown3 hP2 hr HQ HS HO2 hcl
            go_wp2_with (first
              | (at_builtin; refine wpList_append_own _ rfl (.tmp 56) (.tmp 62) 35 rfl w.heap.size 25 i0 (.agg #[.int .i64 0, .int .i64 0]) 2 16 Try.underlying35 hi hz0 hz1 hz2 rfl (by decide) _ _ _ rfl HO3.out ⟨g, 2, none⟩ (rs.length - 1) (c4 - 1) (cellsP rs.tail) rfl (by rw [cellsP_len, List.length_tail]) HN.out (cellsP_one _) (by unfold maxLen; omega) (by omega) hB3.out.size ?_)
              | go_in)
            intro v' w4 hown' hgrow _
            have hown4 := Own.both (by rw [List.length_tail]) hown'
            have hB4 : Bel w w4 := bel_grown hB3 hgrow HO3.out.row
            generalize hqq : qs ++ rs.tail = us at hown4
            have HU : Hid (sl s (f + 1) X Y (k + 2) = us) := by
              show sl s (f + 1) X Y (k + 2) = us
              rw [HR.out, hqq]
            obtain ⟨a5, c5, rfl⟩ := hown4.shape
            have HO4 : Hid (Own w.heap.size w4 (.slice a5 us.length c5) us) := hown4
            clear hown4 hown' hgrow HO3 HN hqq HR
            go_wp2
            go_ret
            exact ⟨_, rfl, by rw [HU.out]; exact HO4.out, hB4⟩
end Go.Proofs.Ytoeaplcijdlhnaa
