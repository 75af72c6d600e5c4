/-
  The model's question whether two labels overlap; whether labels can be, in the program and in its model: contracts.
-/
import Derived.Test.YtpbpnkklnbmkeaaTk
import Derived.Test.YtpbpnkklnbmkeaaLblI
import Derived.Test.YtpbpnkklnbmkeaaAreaC
namespace Go.Proofs.Ytpbpnkklnbmkeaa
open Go.RowKit Go.Maps

set_option maxRecDepth 100000 in
set_option maxHeartbeats 2000000 in
theorem l8Overlap_any (d e : LblD) (r : Bool) (w : World) (hr : ovB d e = r) (kd : lblK d = true) (ke : lblK e = true) :
    Calls Try.prog 86 #[lbv d, lbv e] w fun r' w' => r' = .returned (.bool r) ∧ Bel w w' := by
  have Hr : Hid (ovB d e = r) := hr
  obtain ⟨_, ⟨x0, x1, y0, y1⟩, ⟨w0, w1⟩, ⟨t0, t1⟩, _, _⟩ := lblK_out kd
  obtain ⟨_, ⟨x2, x3, y2, y3⟩, ⟨w2, w3⟩, ⟨t2, t3⟩, _, _⟩ := lblK_out ke
  clear kd ke hr
  by_cases h1 : d.x < e.x + e.wd <;> by_cases h2 : e.x < d.x + d.wd <;> by_cases h3 : d.y < e.y + e.ht <;> by_cases h4 : e.y < d.y + d.ht <;> first | (exfalso; omega) | (
    have HF : Hid (r = (decide (d.x < e.x + e.wd) && (decide (e.x < d.x + d.wd) && (decide (d.y < e.y + e.ht) && decide (e.y < d.y + d.ht))))) := Hr.out.symm
    go_enter Try.func86, Try.ntmps86
    go_wp2
    go_ret
    exact ⟨ret_bl (by rw [HF.out]; simp [h1, h2, h3, h4]), bxL_bel w d e⟩)

set_option maxHeartbeats 1000000 in
theorem l8Find_any (a : Option Addr) (n c : Nat) (l : List LblD) (bs : List Nat) (x : Int) (r : Bool) (w : World) (hT : LblL w a l bs) (hn : l.length = n) (hm : n ≤ 1048576) (hr : fndB l x = r) :
    Calls Try.prog 84 #[.slice a n c, .int .i64 x] w fun e w' => ∃ k : Int, e = .returned (.int .i64 k) ∧ (decide (0 ≤ k) = r) ∧ w' = w := by
  have Hn : Hid (l.length = n) := hn
  have Hr : Hid (fndB l x = r) := hr
  clear hn hr
  go_enter Try.func84, Try.ntmps84
  go_wp2
  go_loop [5] (fun i => ∃ k : Nat, k ≤ n ∧ i = .int .i64 k ∧ ∀ j (h : j < l.length), j < k → l[j].id ≠ x) (fun i => n - (intOf i).toNat)
  case atStart => exact ⟨0, Nat.zero_le _, rfl, fun j _ hj => absurd hj (Nat.not_lt_zero _)⟩
  case round =>
    obtain ⟨k, hk, rfl, hall⟩ := hrel
    have H : Hid (∀ j (h : j < l.length), j < k → l[j].id ≠ x) := hall
    clear hall
    by_cases hlt : k < n
    · have hkl : k < l.length := by rw [Hn.out]; exact hlt
      obtain ⟨b, off, f, rfl, hb, hx⟩ := hT.out hkl
      obtain ⟨_, _, _, _, _, _, _, c0, _⟩ := hx k hkl
      obtain ⟨y, Hy⟩ : ∃ y, Hid (y = l[k].id) := ⟨_, (rfl : l[k].id = _)⟩
      rw [← Hy.out] at c0
      clear hx hT
      by_cases he : y = x
      · have HF : Hid (decide (0 ≤ (k : Int)) = r) := by
          rw [← Hr.out, decide_eq_true (by omega)]
          exact (List.any_eq_true.2 ⟨l[k], List.getElem_mem hkl, by rw [← Hy.out]; exact decide_eq_true he⟩ : l.any _ = true).symm
        subst he
        go_wp2
        go_ret
        exact ⟨_, rfl, HF.out, rfl⟩
      · go_wp2
        go_roundw
        case rel => exact ⟨k + 1, by omega, by go_num, fun j h hj => by
                        (by_cases e : j = k)
                        · subst e; rw [← Hy.out]; exact he
                        · exact H.out j h (by omega)⟩
        case measure => simp [intOf]; omega
    · have hf : fndB l x = false := by
        unfold fndB
        rw [List.any_eq_false]
        intro d hd
        obtain ⟨i, hi, rfl⟩ := List.mem_iff_getElem.1 hd
        simpa using H.out i hi (by rw [Hn.out] at hi; omega)
      have HF : Hid (decide (0 ≤ (-1 : Int)) = r) := by rw [← Hr.out, hf]; exact rfl
      clear hf
      go_wp2
      go_ret
      exact ⟨_, rfl, HF.out, rfl⟩

set_option maxRecDepth 100000 in
set_option maxHeartbeats 4000000 in
theorem specLabelsOk_any (a : Option Addr) (n c : Nat) (l : List LblD) (bs : List Nat) (w : World) (hT : LblL w a l bs) (hn : l.length = n) (hm : n ≤ 1048576) (hc : n ≤ c) :
    Calls Try.prog 63 #[.slice a n c] w fun e w' => e = .returned (.bool (bP (lblsP l))) ∧ Bel w w' := by
  have Hn : Hid (l.length = n) := hn
  clear hn
  by_cases h5 : n ≤ 500
  · go_enter Try.func63, Try.ntmps63
    go_wp2
    go_loopw [3] (fun i wr => ∃ k : Nat, k ≤ n ∧ i = .int .i64 k ∧ (∀ i (h : i < l.length), i < k → lblK l[i] = true ∧ ∀ j (hj : j < i), (l[j]'(by omega)).id ≠ l[i].id) ∧ Bel w wr) (fun i _ => n - (intOf i).toNat)
    case atStart => exact ⟨0, Nat.zero_le _, rfl, fun j _ hj => absurd hj (Nat.not_lt_zero _), Bel.refl _⟩
    case round =>
      obtain ⟨k, hk, rfl, hall, hbel⟩ := hrel
      have H : Hid (∀ i (h : i < l.length), i < k → lblK l[i] = true ∧ ∀ j (hj : j < i), (l[j]'(by omega)).id ≠ l[i].id) := hall
      clear hall
      by_cases hlt : k < n
      · have hkl : k < l.length := by rw [Hn.out]; exact hlt
        have hTr := hT.bel lblE hbel
        obtain ⟨cs, hTk⟩ := hTr.take k (by omega)
        obtain ⟨b, off, f, rfl, hb, hx⟩ := hTr.out hkl
        obtain ⟨_, i0, i1, i2, i3, i4, i5, c0, c1, c2, c3, c4, c5⟩ := hx k hkl
        obtain ⟨d, Hd⟩ : ∃ d, Hid (d = l[k]) := ⟨_, (rfl : l[k] = _)⟩
        rw [← Hd.out] at c0 c1 c2 c3 c4 c5
        have hR : ∀ w', Bel wr w' → (w'.cell? ⟨b, off + k * 6, none⟩ = some (.int .i64 d.id) ∧ w'.cell? ⟨b, off + k * 6 + 1, none⟩ = some (.int .i64 d.x) ∧ w'.cell? ⟨b, off + k * 6 + 2, none⟩ = some (.int .i64 d.y) ∧ w'.cell? ⟨b, off + k * 6 + 3, none⟩ = some (.int .i64 d.wd) ∧ w'.cell? ⟨b, off + k * 6 + 4, none⟩ = some (.int .i64 d.ht) ∧ w'.cell? ⟨b, off + k * 6 + 5, none⟩ = some (.int .i64 d.rk)) :=
          fun w' h => ⟨bel_cellM h hb c0, bel_cellM h hb c1, bel_cellM h hb c2, bel_cellM h hb c3, bel_cellM h hb c4, bel_cellM h hb c5⟩
        have g0 : Bel wr wr := Bel.refl _
        have hlt' : (k : Int) < (n : Int) := by omega
        have hk0 : ¬ ((k : Int) < 0) := by omega
        have hkc : k ≤ c := by omega
        clear hx hT i0 i1 i2 i3 i4 i5
        rcases Bool.eq_false_or_eq_true (lblK d) with hf | hf
        · have hfn := fndB_iff (x := d.id) (show k ≤ l.length by omega)
          rcases Bool.eq_false_or_eq_true (bP (idsTo l k d.id)) with hp | hp
          · have HF : Hid (false = bP (lblsP l)) := (lblsP_two hkl (by rw [← Hd.out]; exact bP_out hp)).symm
            have cF := fun (W : World) (h : Bel wr W) => l8Find_any (some ⟨b, off, none⟩) k c (l.take k) cs d.id true W (hTk.bel lblE h) (by simp; omega) (by omega) (by rw [hfn, hp])
            clear c0 c1 c2 c3 c4 c5 hfn hTk hTr
            go_wp2
            refine wp_region_noPanic ?_
            refine wp_region_held_drew (S := fun w' => Bel wr w') (by kernel_rfl) (Bel.drew g0) (fun hHeld => ?_)
            refine tk 0 hHeld ?_; refine tk 1 hHeld ?_; refine tk 2 hHeld ?_; refine tk 3 hHeld ?_
            refine rd1 4 (fun K hK => ?_)
            go_simp
            refine (l8Ok_r d true _ hf).mono ?_
            rintro e w1 ⟨rfl, hbk⟩
            go_wp2_with fail
            refine hK.out _ _ ((by first | exact bel_step hHeld hbk | exact hHeld)) (fun hHeld' => ?_)
            clear hK K hHeld
            have hHeld := hHeld'
            clear hHeld'
            try simp only [Act.put, List.setIfInBounds_toArray, List.set_cons_zero, List.set_cons_succ]
            refine tk 5 hHeld ?_; refine tk 6 hHeld ?_; refine tk 7 hHeld ?_; refine tk 8 hHeld ?_; refine tk 9 hHeld ?_; refine tk 10 hHeld ?_
            refine tk 11 hHeld ?_; refine tk 12 hHeld ?_; refine tk 13 hHeld ?_; refine tk 14 hHeld ?_
            refine rd1 15 (fun K hK => ?_)
            go_simp
            refine (cF _ hHeld).mono ?_
            rintro e w2 ⟨kk, rfl, hkk, rfl⟩
            go_wp2_with fail
            refine hK.out _ _ ((by first | exact bel_step hHeld hbk | exact hHeld)) (fun hHeld' => ?_)
            clear hK K hHeld
            have hHeld := hHeld'
            clear hHeld'
            try simp only [Act.put, List.setIfInBounds_toArray, List.set_cons_zero, List.set_cons_succ]
            refine tk 16 hHeld ?_; refine tk 17 hHeld ?_
            refine wpAnyH_done (by kernel_rfl) ?_ _
            refine NoPanic.normal ?_
            go_wp2
            go_ret
            exact ⟨ret_bl HF.out, bel_step hbel hHeld⟩
          · have HA : Hid (lblK l[k] = true ∧ ∀ j (hj : j < k), (l[j]'(by omega)).id ≠ l[k].id) := ⟨by rw [← Hd.out]; exact hf, fun j hj e => bP_not hp ⟨j, by omega, hj, by rw [Hd.out]; exact e⟩⟩
            have cF := fun (W : World) (h : Bel wr W) => l8Find_any (some ⟨b, off, none⟩) k c (l.take k) cs d.id false W (hTk.bel lblE h) (by simp; omega) (by omega) (by rw [hfn, hp])
            clear c0 c1 c2 c3 c4 c5 hfn hTk hTr
            go_wp2
            refine wp_region_noPanic ?_
            refine wp_region_held_drew (S := fun w' => Bel wr w') (by kernel_rfl) (Bel.drew g0) (fun hHeld => ?_)
            refine tk 0 hHeld ?_; refine tk 1 hHeld ?_; refine tk 2 hHeld ?_; refine tk 3 hHeld ?_
            refine rd1 4 (fun K hK => ?_)
            go_simp
            refine (l8Ok_r d true _ hf).mono ?_
            rintro e w1 ⟨rfl, hbk⟩
            go_wp2_with fail
            refine hK.out _ _ ((by first | exact bel_step hHeld hbk | exact hHeld)) (fun hHeld' => ?_)
            clear hK K hHeld
            have hHeld := hHeld'
            clear hHeld'
            try simp only [Act.put, List.setIfInBounds_toArray, List.set_cons_zero, List.set_cons_succ]
            refine tk 5 hHeld ?_; refine tk 6 hHeld ?_; refine tk 7 hHeld ?_; refine tk 8 hHeld ?_; refine tk 9 hHeld ?_; refine tk 10 hHeld ?_
            refine tk 11 hHeld ?_; refine tk 12 hHeld ?_; refine tk 13 hHeld ?_; refine tk 14 hHeld ?_
            refine rd1 15 (fun K hK => ?_)
            go_simp
            refine (cF _ hHeld).mono ?_
            rintro e w2 ⟨kk, rfl, hkk, rfl⟩
            go_wp2_with fail
            refine hK.out _ _ ((by first | exact bel_step hHeld hbk | exact hHeld)) (fun hHeld' => ?_)
            clear hK K hHeld
            have hHeld := hHeld'
            clear hHeld'
            try simp only [Act.put, List.setIfInBounds_toArray, List.set_cons_zero, List.set_cons_succ]
            refine tk 16 hHeld ?_; refine tk 17 hHeld ?_
            refine wpAnyH_done (by kernel_rfl) ?_ _
            refine NoPanic.normal ?_
            have hB1 := bel_step hbel hHeld
            go_wp2
            go_roundw
            case rel => exact ⟨k + 1, by omega, by go_num, fun j h hj => by
                            (by_cases e : j = k)
                            · subst e; exact HA.out
                            · exact H.out j h (by omega), hB1⟩
            case measure => simp [intOf]; omega
        · have HF : Hid (false = bP (lblsP l)) := (lblsP_no hkl (by rw [← Hd.out]; exact hf)).symm
          clear c0 c1 c2 c3 c4 c5 hTk hTr
          go_wp2
          refine wp_region_noPanic ?_
          refine wp_region_held_drew (S := fun w' => Bel wr w') (by kernel_rfl) (Bel.drew g0) (fun hHeld => ?_)
          refine tk 0 hHeld ?_; refine tk 1 hHeld ?_; refine tk 2 hHeld ?_; refine tk 3 hHeld ?_
          refine rd1 4 (fun K hK => ?_)
          go_simp
          refine (l8Ok_r d false _ hf).mono ?_
          rintro e w1 ⟨rfl, hbk⟩
          go_wp2_with fail
          refine hK.out _ _ (bel_step hHeld hbk) (fun hHeld' => ?_)
          clear hK K hHeld
          have hHeld := hHeld'
          clear hHeld'
          try simp only [Act.put, List.setIfInBounds_toArray, List.set_cons_zero, List.set_cons_succ]
          refine tk 5 hHeld ?_; refine tk 6 hHeld ?_; refine sk 7 hHeld ?_; refine sk 8 hHeld ?_; refine sk 9 hHeld ?_; refine sk 10 hHeld ?_
          refine sk 11 hHeld ?_; refine sk 12 hHeld ?_; refine sk 13 hHeld ?_; refine sk 14 hHeld ?_; refine sk 15 hHeld ?_
          refine sk 16 hHeld ?_; refine tk 17 hHeld ?_
          refine wpAnyH_done (by kernel_rfl) ?_ _
          refine NoPanic.normal ?_
          go_wp2
          go_ret
          exact ⟨ret_bl HF.out, bel_step hbel hHeld⟩
      · have HT : Hid (true = bP (lblsP l)) := (bP_true ⟨by rw [Hn.out]; exact h5, fun i h => H.out i h (by rw [Hn.out] at h; omega)⟩).symm
        go_wp2
        go_ret
        exact ⟨ret_bl HT.out, hbel⟩
  · have HF : Hid (false = bP (lblsP l)) := (lblsP_many (by rw [Hn.out]; exact h5)).symm
    go_enter Try.func63, Try.ntmps63
    go_wp2
    go_ret
    exact ⟨ret_bl HF.out, Bel.refl _⟩
end Go.Proofs.Ytpbpnkklnbmkeaa

