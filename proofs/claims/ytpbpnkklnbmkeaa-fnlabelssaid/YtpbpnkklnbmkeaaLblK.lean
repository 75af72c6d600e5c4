/-
  Whether labels can be, in the program: contract.
-/
import Derived.Test.YtpbpnkklnbmkeaaLblJ
namespace Go.Proofs.Ytpbpnkklnbmkeaa
open Go.RowKit Go.Maps

set_option maxRecDepth 100000 in
set_option maxHeartbeats 4000000 in
theorem labelsOk_any (a : Option Addr) (n c : Nat) (l : List LblD) (bs : List Nat) (w : World) (hT : LblL w a l bs) (hn : l.length = n) (hm : n ≤ 1048576) :
    Calls Try.prog 8 #[.slice a n c] w fun e w' => e = .returned (.bool (bP (lblsP l))) ∧ Bel w w' := by
  have Hn : Hid (l.length = n) := hn
  have hmm := @run_makeMap Try.prog
  clear hn
  by_cases h5 : n ≤ 500
  · have hS0 := SetAt.new w
    rw [← idsTo_zero l] at hS0
    obtain ⟨W, HW⟩ : ∃ W, Hid (W = w.alloc (.map #[] 0)) := ⟨_, (rfl : w.alloc (.map #[] 0) = _)⟩
    rw [← HW.out] at hS0
    have hBW : Bel w W := by rw [HW.out]; exact bel_alloc (Bel.refl _) _
    have hTW := hT.bel lblE hBW
    have hnb : w.heap.size ∉ bs := fun h => by have := hT.lt lblE _ h; omega
    clear hT
    go_enter Try.func8, Try.ntmps8
    go_wp2
    rw [← HW.out]
    go_loopw [12] (fun i wr => ∃ k : Nat, k ≤ n ∧ i = .int .i64 k ∧ SetAt wr w.heap.size k (idsTo l k) ∧ (∀ i (h : i < l.length), i < k → lblK l[i] = true ∧ ∀ j (hj : j < i), (l[j]'(by omega)).id ≠ l[i].id) ∧ W.grownBy wr (some w.heap.size)) (fun i _ => n - (intOf i).toNat)
    case atStart => exact ⟨0, Nat.zero_le _, rfl, hS0, fun j _ hj => absurd hj (Nat.not_lt_zero _), World.grownBy.refl _ _⟩
    case round =>
      obtain ⟨k, hk, rfl, hSk, hall, hgr⟩ := hrel
      have H : Hid (∀ i (h : i < l.length), i < k → lblK l[i] = true ∧ ∀ j (hj : j < i), (l[j]'(by omega)).id ≠ l[i].id) := hall
      have hBr : Bel w wr := bel_grow hBW hgr (fun k e => by injection e with e; omega)
      clear hall hmm
      by_cases hlt : k < n
      · have hkl : k < l.length := by rw [Hn.out]; exact hlt
        obtain ⟨b, off, f, rfl, hb, hx⟩ := (hTW.grown lblE hgr hnb).out hkl
        obtain ⟨_, i0, i1, i2, i3, i4, i5, c0, c1, c2, c3, c4, c5⟩ := hx k hkl
        obtain ⟨d, Hd⟩ : ∃ d, Hid (d = l[k]) := ⟨_, (rfl : l[k] = _)⟩
        rw [← Hd.out] at c0 c1 c2 c3 c4 c5 i0
        obtain ⟨V, HV⟩ : ∃ V, Hid (V = wr.alloc (.cells #[.int .i64 d.id, .int .i64 d.x, .int .i64 d.y, .int .i64 d.wd, .int .i64 d.ht, .int .i64 d.rk] 33)) := ⟨_, (rfl : wr.alloc (.cells #[.int .i64 d.id, .int .i64 d.x, .int .i64 d.y, .int .i64 d.wd, .int .i64 d.ht, .int .i64 d.rk] 33) = _)⟩
        have hbV : Bel wr V := by rw [HV.out]; exact bel_alloc (Bel.refl _) _
        have XV : Blk V wr.heap.size [.int .i64 d.id, .int .i64 d.x, .int .i64 d.y, .int .i64 d.wd, .int .i64 d.ht, .int .i64 d.rk] := by rw [HV.out]; exact Blk.new wr [.int .i64 d.id, .int .i64 d.x, .int .i64 d.y, .int .i64 d.wd, .int .i64 d.ht, .int .i64 d.rk] _
        have hSV := hSk.bel hbV
        have hlt' : (k : Int) < (n : Int) := by omega
        clear hx hTW hSk i1 i2 i3 i4 i5
        rcases Bool.eq_false_or_eq_true (lblK d) with hf | hf
        · rcases Bool.eq_false_or_eq_true (bP (idsTo l k d.id)) with hp | hp
          · have HF : Hid (false = bP (lblsP l)) := (lblsP_two hkl (by rw [← Hd.out]; exact bP_out hp)).symm
            go_wp2_with fail
            rw [← HV.out]
            refine (lblCan_r d true _ hf).mono ?_
            rintro e w1 ⟨rfl, hb1⟩
            have e0 : w1.cell? ⟨wr.heap.size, 0, none⟩ = some (.int .i64 d.id) := (XV.bel hb1).cell 0 (by simp)
            have el := (XV.bel hb1).lt
            have hS1 := hSV.bel hb1
            have hB1 := bel_step hBr (bel_step hbV hb1)
            clear c0 c1 c2 c3 c4 c5 hb XV hb1 hSV hbV
            go_wp2_with fail
            refine (has_any _ _ _ _ _ hS1 i0).mono ?_
            rintro e w2 ⟨rfl, hb2⟩
            rw [hp]
            have hB2 := bel_step hB1 hb2
            clear e0 el hS1 hb2
            go_wp2
            go_ret
            exact ⟨ret_bl HF.out, hB2⟩
          · have HA : Hid (lblK l[k] = true ∧ ∀ j (hj : j < k), (l[j]'(by omega)).id ≠ l[k].id) := ⟨by rw [← Hd.out]; exact hf, fun j hj e => bP_not hp ⟨j, by omega, hj, by rw [Hd.out]; exact e⟩⟩
            have hst := idsTo_step hkl
            rw [← Hd.out] at hst
            have HST : Hid ((fun y => y ∈ [d.id] ∨ idsTo l k y) = idsTo l (k + 1)) := hst
            clear hst
            go_wp2_with fail
            rw [← HV.out]
            refine (lblCan_r d true _ hf).mono ?_
            rintro e w1 ⟨rfl, hb1⟩
            have X1 := XV.bel hb1
            have e0 : w1.cell? ⟨wr.heap.size, 0, none⟩ = some (.int .i64 d.id) := X1.cell 0 (by simp)
            have el := X1.lt
            have hS1 := hSV.bel hb1
            have hB1 := bel_step hbV hb1
            clear c0 c1 c2 c3 c4 c5 hb XV hb1 hSV hbV
            go_wp2_with fail
            refine (has_any _ _ _ _ _ hS1 i0).mono ?_
            rintro e w2 ⟨rfl, hb2⟩
            rw [hp]
            have f0 : w2.cell? ⟨wr.heap.size, 0, none⟩ = some (.int .i64 d.id) := (X1.bel hb2).cell 0 (by simp)
            have fl := (X1.bel hb2).lt
            have hS2 := (hS1.bel hb2).bel (bel_alloc (Bel.refl w2) (.cells #[.int .i64 d.id] 2))
            have hl2 := (hS1.bel hb2).lt
            have hB2 := bel_step hB1 (bel_step hb2 (bel_alloc (Bel.refl w2) (.cells #[.int .i64 d.id] 2)))
            clear e0 el hS1 hb2 X1 hB1
            go_wp2_with fail
            refine (add_any _ _ _ _ 1 _ [d.id] [w2.heap.size] _ hS2 (ints_one w2 d.id i0 _) rfl (by decide) (by omega) (by simp; omega)).mono ?_
            rintro e w3 ⟨rfl, hS3, hg3⟩
            have HS3 : Hid (SetAt w3 w.heap.size (k + 1) (idsTo l (k + 1))) := by rw [HST.out] at hS3; exact hS3
            have hG3 := (grown_step hgr hB2).trans hg3
            clear hS2 hS3 hg3 hB2 f0 fl hl2
            go_wp2
            go_roundw
            case rel => exact ⟨k + 1, by omega, by go_num, HS3.out, fun j h hj => by
                            (by_cases e : j = k)
                            · subst e; exact HA.out
                            · exact H.out j h (by omega), hG3⟩
            case measure => simp [intOf]; omega
        · have HF : Hid (false = bP (lblsP l)) := (lblsP_no hkl (by rw [← Hd.out]; exact hf)).symm
          go_wp2_with fail
          rw [← HV.out]
          refine (lblCan_r d false _ hf).mono ?_
          rintro e w1 ⟨rfl, hb1⟩
          have hB1 := bel_step hBr (bel_step hbV hb1)
          clear c0 c1 c2 c3 c4 c5 hb XV hb1 hSV hbV
          go_wp2
          go_ret
          exact ⟨ret_bl HF.out, hB1⟩
      · have HT : Hid (true = bP (lblsP l)) := (bP_true ⟨by rw [Hn.out]; exact h5, fun i h => H.out i h (by rw [Hn.out] at h; omega)⟩).symm
        go_wp2
        go_ret
        exact ⟨ret_bl HT.out, hBr⟩
  · have HF : Hid (false = bP (lblsP l)) := (lblsP_many (by rw [Hn.out]; exact h5)).symm
    go_enter Try.func8, Try.ntmps8
    go_wp2
    go_ret
    exact ⟨ret_bl HF.out, Bel.refl _⟩
end Go.Proofs.Ytpbpnkklnbmkeaa
