/-
  Contracts of TagsOk in the model, and of TagOf in the program and in its model: for every list of tags.
  Contract of what the model asks of a way: for every way.
  Contract of what the model asks of an area: for every area.
-/
import Derived.Test.YtldfcnlhjjiihaaGreatGB
import Derived.Test.YtldfcnlhjjiihaaGreatGA
import Derived.Test.YtldfcnlhjjiihaaGreatKD
import Derived.Deep.RegionHeld3
namespace Go.Proofs.YtldfcnlhjjiihaaGreat
open Go.RowKit

set_option maxHeartbeats 2000000 in
theorem specTagsOk_any (a : Option Addr) (n c : Nat) (l : List TagD) (bs : List Nat) (w : World) (hT : Tags w a l bs) (hn : l.length = n) (hm : n ≤ 1048576) :
    Calls Tryz.prog 44 #[.slice a n c] w fun e w' => e = .returned (.bool (tagsB l)) ∧ Bel w w' := by
  have Hn : Hid (l.length = n) := hn
  clear hn
  by_cases h30 : n ≤ 30
  · go_enter Tryz.func44, Tryz.ntmps44
    go_wp2
    go_loopw [3] (fun i wr => ∃ k : Nat, k ≤ n ∧ i = .int .i64 k ∧ (∀ j (h : j < l.length), j < k → TagOkAt l j h) ∧ Bel w wr) (fun i _ => n - (intOf i).toNat)
    case atStart => exact ⟨0, Nat.zero_le _, rfl, fun j _ hj => absurd hj (Nat.not_lt_zero _), Bel.refl _⟩
    case round =>
      obtain ⟨k, hk, rfl, hall, hbel⟩ := hrel
      have H : Hid (∀ j (h : j < l.length), j < k → TagOkAt l j h) := hall
      clear hall
      by_cases hlt : k < n
      · have hkl : k < l.length := by rw [Hn.out]; exact hlt
        have hlt' : (k : Int) < (n : Int) := by omega
        obtain ⟨b, off, f, rfl, hb, hx⟩ := (hT.bel2 hbel).out hkl
        obtain ⟨_, sk, sv, ck, cv⟩ := hx k hkl
        obtain ⟨K, HK⟩ : ∃ K, Hid (K = l[k].k) := ⟨_, (rfl : l[k].k = _)⟩
        obtain ⟨V, HV⟩ : ∃ V, Hid (V = l[k].v) := ⟨_, (rfl : l[k].v = _)⟩
        rw [← HK.out] at ck sk
        rw [← HV.out] at cv sv
        cases hwk : wordB K
        · have HF : Hid (false = tagsB l) := (tagsB_at hkl fun h => by have := h.1; rw [← HK.out, hwk] at this; cases this).symm
          clear hx hT
          go_wp2
          go_quiet ((go_at_call 76; exact Calls.quiet_of_same ((l2WordOk_any _ _ sk).mono (by rintro e w' ⟨rfl, rfl⟩; exact ⟨rfl, rfl⟩))))
          go_wp2
          go_ret
          exact ⟨ret_bl HF.out, bel_drewN hbel _⟩
        · cases hvk : valB V
          · have HF : Hid (false = tagsB l) := (tagsB_at hkl fun h => by have := h.2.1; rw [← HV.out, hvk] at this; cases this).symm
            clear hx hT
            go_wp2
            go_quiet ((first | (go_at_call 76; exact Calls.quiet_of_same ((l2WordOk_any _ _ sk).mono (by rintro e w' ⟨rfl, rfl⟩; exact ⟨rfl, rfl⟩))) | (go_at_call 77; exact Calls.quiet_of_same ((l2ValueOk_any _ _ sv).mono (by rintro e w' ⟨rfl, rfl⟩; exact ⟨rfl, rfl⟩)))))
            go_wp2
            go_ret
            exact ⟨ret_bl HF.out, bel_drewN hbel _⟩
          · rcases k with _ | m
            · have HA : Hid (TagOkAt l 0 hkl) := ⟨by rw [← HK.out]; exact hwk, by rw [← HV.out]; exact hvk, fun h => absurd h (Nat.lt_irrefl _)⟩
              simp only [Nat.zero_mul, Nat.add_zero] at ck cv
              clear hx hT
              go_wp2
              go_quiet ((first | (go_at_call 76; exact Calls.quiet_of_same ((l2WordOk_any _ _ sk).mono (by rintro e w' ⟨rfl, rfl⟩; exact ⟨rfl, rfl⟩))) | (go_at_call 77; exact Calls.quiet_of_same ((l2ValueOk_any _ _ sv).mono (by rintro e w' ⟨rfl, rfl⟩; exact ⟨rfl, rfl⟩)))))
              go_wp2
              go_roundw
              case rel => exact ⟨1, by omega, by go_num, fun j h hj => by obtain rfl : j = 0 := by omega
                                                                          exact HA.out, bel_drewN hbel _⟩
              case measure => simp [intOf]; omega
            · obtain ⟨_, _, _, cp, _⟩ := hx m (by omega)
              obtain ⟨P, HP⟩ : ∃ P, Hid (P = (l[m]'(by omega)).k) := ⟨_, (rfl : (l[m]'(by omega)).k = _)⟩
              rw [← HP.out] at cp
              have hltm : (m : Int) < (n : Int) := by omega
              have hm1 : IntKind.i64.wrap ((m : Int) + 1 - 1) = m := by rw [IntKind.wrap_i64]; omega
              cases hlp : ltS P K
              · have HF : Hid (false = tagsB l) := (tagsB_at hkl fun h => by
                  have := h.2.2 (Nat.succ_pos _)
                  simp only [Nat.add_sub_cancel] at this
                  rw [← HK.out, ← HP.out, hlp] at this; cases this).symm
                unfold ltS at hlp
                clear hx hT
                go_wp2
                go_quiet ((first | (go_at_call 76; exact Calls.quiet_of_same ((l2WordOk_any _ _ sk).mono (by rintro e w' ⟨rfl, rfl⟩; exact ⟨rfl, rfl⟩))) | (go_at_call 77; exact Calls.quiet_of_same ((l2ValueOk_any _ _ sv).mono (by rintro e w' ⟨rfl, rfl⟩; exact ⟨rfl, rfl⟩)))))
                go_wp2
                go_ret
                exact ⟨ret_bl HF.out, bel_drewN hbel _⟩
              · have HA : Hid (TagOkAt l (m + 1) hkl) := ⟨by rw [← HK.out]; exact hwk, by rw [← HV.out]; exact hvk, fun _ => by simp only [Nat.add_sub_cancel]; rw [← HK.out, ← HP.out]; exact hlp⟩
                unfold ltS at hlp
                clear hx hT
                go_wp2
                go_quiet ((first | (go_at_call 76; exact Calls.quiet_of_same ((l2WordOk_any _ _ sk).mono (by rintro e w' ⟨rfl, rfl⟩; exact ⟨rfl, rfl⟩))) | (go_at_call 77; exact Calls.quiet_of_same ((l2ValueOk_any _ _ sv).mono (by rintro e w' ⟨rfl, rfl⟩; exact ⟨rfl, rfl⟩)))))
                go_wp2
                go_roundw
                case rel => exact ⟨m + 2, by omega, by go_num, fun j h hj => by
                                (by_cases e : j = m + 1)
                                · subst e; exact HA.out
                                · exact H.out j h (by omega), bel_drewN hbel _⟩
                case measure => simp [intOf]; omega
      · have HT : Hid (true = tagsB l) := (tagsB_true (by rw [Hn.out]; exact h30) fun j h => H.out j h (by rw [Hn.out] at h; omega)).symm
        go_wp2
        go_ret
        exact ⟨ret_bl (by rw [← HT.out] <;> first | rfl | (simp; done) | (simp; omega)), hbel⟩
  · have HF : Hid (false = tagsB l) := (tagsB_big (by rw [Hn.out]; exact h30)).symm
    go_enter Tryz.func44, Tryz.ntmps44
    go_wp2
    go_loopw [3] (fun i wr => i = .int .i64 0 ∧ wr = w) (fun _ _ => 0)
    case atStart => exact ⟨rfl, rfl⟩
    case round =>
      obtain ⟨rfl, rfl⟩ := hrel
      go_wp2
      all_goals
        go_ret
        exact ⟨ret_bl (by rw [← HF.out] <;> first | rfl | (simp; done) | (simp; omega)), Bel.refl _⟩

end Go.Proofs.YtldfcnlhjjiihaaGreat

namespace Go.Proofs.YtldfcnlhjjiihaaGreat
open Go.RowKit Go.Maps

structure WokP (n : Nat) (I : Nat → Int) (id : Int) (tg : List TagD) (ns : List Int) : Prop where
  h1 : idB id = true
  h2 : tagsB tg = true
  h3 : WayP n I ns

set_option maxRecDepth 100000 in
set_option maxHeartbeats 4000000 in
theorem l2WayOk_any (v : Value) (m : MapD) (bs : List Nat) (id : Int) (a1 : Option Addr) (n1 c1 : Nat) (ns : List Int) (b1 : List Nat) (a2 : Option Addr) (n2 c2 : Nat) (tg : List TagD) (b2 : List Nat) (w : World) (hV : MapV w v m bs) (hl : m.nodes.length ≤ 5000) (hA : AscP m.nodes.length (nId m.nodes) (nTg m.nodes))
    (t1 : Ints w a1 ns b1) (e1 : ns.length = n1) (m1 : n1 ≤ 1048576) (t2 : Tags w a2 tg b2) (e2 : tg.length = n2) (m2 : n2 ≤ 1048576) :
    Calls Tryz.prog 45 #[v, .agg #[.int .i64 id, .slice a1 n1 c1, .slice a2 n2 c2]] w fun e w' => e = .returned (.bool (bP (WokP m.nodes.length (nId m.nodes) id tg ns))) ∧ Bel w w' := by
  have hV' := hV
  obtain ⟨x0, y0, x1, y1, x2, y2, d0, d1, d2, rfl, _, _, _, _⟩ := hV.out
  clear hV
  obtain ⟨n, hn⟩ : ∃ n, m.nodes.length = n := ⟨_, rfl⟩
  obtain ⟨nw, hnw⟩ : ∃ n, m.ways.length = n := ⟨_, rfl⟩
  obtain ⟨na, hna⟩ : ∃ n, m.areas.length = n := ⟨_, rfl⟩
  obtain ⟨I, hI⟩ : ∃ I, nId m.nodes = I := ⟨_, rfl⟩
  have hN := fun x w0 (h : MapV w0 (.agg #[.slice x0 n y0, .slice x1 nw y1, .slice x2 na y2]) m bs) => (by have := l2Node_any _ m bs x w0 h hl hA; rw [hn, hI] at this; exact this : Calls Tryz.prog 48 #[.agg #[.slice x0 n y0, .slice x1 nw y1, .slice x2 na y2], .int .i64 x] w0 fun e w' => e = .returned (.int .i64 (posI I n x)) ∧ Bel w0 w')
  rw [hn, hnw, hna] at hV' ⊢
  rw [hI]
  have HN : Hid _ := hN
  have E1 : Hid (ns.length = n1) := e1
  clear hN hA hl hn hnw hna hI e1
  obtain ⟨W, HW⟩ : ∃ W, Hid (W = (w.alloc (.cells #[.slice x0 n y0, .slice x1 nw y1, .slice x2 na y2] 39)).alloc (.cells #[.int .i64 id, .slice a1 n1 c1, .slice a2 n2 c2] 59)) := ⟨_, (rfl : _ = _)⟩
  have hB : Bel w W := by rw [HW.out]; exact bel_alloc (bel_alloc (Bel.refl _) _) _
  have X0 : Blk W w.heap.size [.slice x0 n y0, .slice x1 nw y1, .slice x2 na y2] := by rw [HW.out]; exact (Blk.new w [.slice x0 n y0, .slice x1 nw y1, .slice x2 na y2] _).bel (bel_alloc (Bel.refl _) _)
  have X1 : Blk W (w.heap.size + 1) [.int .i64 id, .slice a1 n1 c1, .slice a2 n2 c2] := by rw [HW.out]; exact Blk.new1 w _ [.int .i64 id, .slice a1 n1 c1, .slice a2 n2 c2] _
  cases h1 : idB id
  · have HF : Hid (false = bP (WokP n I id tg ns)) := (bP_false fun h => by have := h.h1; rw [h1] at this; cases this).symm
    go_enter Tryz.func45, Tryz.ntmps45
    go_wp2_with fail
    refine (l2IdOk_any _ _).mono ?_
    rintro e w1 ⟨rfl, rfl⟩
    rw [h1]
    go_wp2
    go_ret
    exact ⟨ret_bl HF.out, bel_alloc (bel_alloc (Bel.refl _) _) _⟩
  cases h2 : tagsB tg
  · have HF : Hid (false = bP (WokP n I id tg ns)) := (bP_false fun h => by have := h.h2; rw [h2] at this; cases this).symm
    go_enter Tryz.func45, Tryz.ntmps45
    go_wp2_with fail
    refine (l2IdOk_any _ _).mono ?_
    rintro e w1 ⟨rfl, rfl⟩
    rw [h1]
    go_wp2_with fail
    rw [← HW.out]
    refine (specTagsOk_any _ _ _ tg b2 _ (t2.bel2 hB) e2 m2).mono ?_
    rintro e w2 ⟨rfl, hb2⟩
    rw [h2]
    go_wp2
    go_ret
    exact ⟨ret_bl HF.out, bel_step hB hb2⟩
  by_cases h3 : 2 ≤ n1 ∧ n1 ≤ 2000
  · obtain ⟨h3, h4⟩ := h3
    go_enter Tryz.func45, Tryz.ntmps45
    go_wp2_with fail
    refine (l2IdOk_any _ _).mono ?_
    rintro e w1 ⟨rfl, rfl⟩
    rw [h1]
    go_wp2_with fail
    rw [← HW.out]
    refine (specTagsOk_any _ _ _ tg b2 _ (t2.bel2 hB) e2 m2).mono ?_
    rintro e w2 ⟨rfl, hb2⟩
    rw [h2]
    have Z0 := X0.bel hb2
    have Z1 := X1.bel hb2
    have z2 : w2.cell? ⟨w.heap.size + 1, 1, none⟩ = some (.slice a1 n1 c1) := Z1.cell 1 (by simp)
    have hB2 := bel_step hB hb2
    clear HW X0 X1 hb2 hB
    go_wp2
    go_loopw [5] (fun i wr => ∃ k : Nat, k ≤ n1 ∧ i = .int .i64 k ∧ Hid (∀ j (h : j < ns.length), j < k → HasI n I ns[j] ∧ (0 < j → ns[j] ≠ ns[j - 1]'(by omega))) ∧ Bel w2 wr) (fun i _ => n1 - (intOf i).toNat)
    case atStart => exact ⟨0, Nat.zero_le _, rfl, (fun j _ hj => absurd hj (Nat.not_lt_zero _) : ∀ j (h : j < ns.length), j < 0 → HasI n I ns[j] ∧ (0 < j → ns[j] ≠ ns[j - 1]'(by omega))), Bel.refl _⟩
    case round =>
      obtain ⟨k, hk, rfl, H, hbel⟩ := hrel
      have hBr := bel_step hB2 hbel
      have Y0 := Z0.bel hbel
      have Y1 := Z1.bel hbel
      have z2r : wr.cell? ⟨w.heap.size + 1, 1, none⟩ = some (.slice a1 n1 c1) := Y1.cell 1 (by simp)
      by_cases hlt : k < n1
      · have hkl : k < ns.length := by rw [E1.out]; exact hlt
        obtain ⟨b, off, f, rfl, hb, hx⟩ := (t1.bel intE hBr).out hkl
        obtain ⟨_, ix, cx⟩ := hx k hkl
        simp only [Nat.mul_one] at cx
        obtain ⟨x, Hx⟩ : ∃ x, Hid (x = ns[k]) := ⟨_, (rfl : ns[k] = _)⟩
        rw [← Hx.out] at cx ix
        have hlt' : (k : Int) < (n1 : Int) := by omega
        cases hp : bP (HasI n I x)
        · have HF : Hid (false = bP (WokP n I id tg ns)) := (bP_false fun h => bP_not hp (by rw [Hx.out]; exact (h.h3.2.2 k hkl).1)).symm
          have hR : ∀ w', Bel wr w' → w'.cell? ⟨w.heap.size, 0, none⟩ = some (.slice x0 n y0) ∧ w'.cell? ⟨w.heap.size, 1, none⟩ = some (.slice x1 nw y1) ∧ w'.cell? ⟨w.heap.size, 2, none⟩ = some (.slice x2 na y2) ∧ w'.cell? ⟨w.heap.size + 1, 1, none⟩ = some (.slice (some ⟨b, off, none⟩) n1 c1) ∧ w'.cell? ⟨b, off + k, none⟩ = some (.int .i64 x) :=
            fun w' h => ⟨(Y0.bel h).cell 0 (by simp), (Y0.bel h).cell 1 (by simp), (Y0.bel h).cell 2 (by simp), (Y1.bel h).cell 1 (by simp), bel_cellM h hb cx⟩
          have hMV : ∀ w', Bel wr w' → MapV w' (.agg #[.slice x0 n y0, .slice x1 nw y1, .slice x2 na y2]) m bs := fun w' h => hV'.bel (bel_step hBr h)
          have g0 : Bel wr wr := Bel.refl _
          have hpos : decide (posI I n x < 0) = true := by rw [posI_none (bP_not hp)]; decide
          clear hx Y0 Y1 cx hb t1 t2
          go_wp2
          refine wp_region_noPanic ?_
          refine wp_region_held_drew (S := fun w' => Bel wr w') (by kernel_rfl) (Bel.drew g0) (fun hHeld => ?_)
          refine tk 0 hHeld ?_; refine tk 1 hHeld ?_; refine tk 2 hHeld ?_; refine tk 3 hHeld ?_; refine tk 4 hHeld ?_; refine tk 5 hHeld ?_
          refine rd1 6 (fun K hK => ?_)
          go_simp
          refine (HN.out _ _ (hMV _ hHeld)).mono ?_
          rintro e w' ⟨rfl, hbk⟩
          go_wp2_with fail
          refine hK.out _ _ (bel_step hHeld hbk) (fun hHeld' => ?_)
          clear hK K hHeld
          have hHeld := hHeld'
          clear hHeld'
          try simp only [Act.put, List.setIfInBounds_toArray, List.set_cons_zero, List.set_cons_succ]
          refine tk 7 hHeld ?_; refine tk 8 hHeld ?_; refine sk 9 hHeld ?_; refine sk 10 hHeld ?_; refine sk 11 hHeld ?_
          refine sk 12 hHeld ?_; refine sk 13 hHeld ?_; refine sk 14 hHeld ?_; refine sk 15 hHeld ?_; refine sk 16 hHeld ?_
          refine sk 17 hHeld ?_; refine sk 18 hHeld ?_; refine sk 19 hHeld ?_; refine sk 20 hHeld ?_; refine sk 21 hHeld ?_
          refine sk 22 hHeld ?_; refine sk 23 hHeld ?_; refine sk 24 hHeld ?_; refine tk 25 hHeld ?_
          refine wpAnyH_done (by kernel_rfl) ?_ _
          refine NoPanic.normal ?_
          go_wp2
          go_ret
          exact ⟨ret_bl HF.out, bel_step hBr hHeld⟩
        · have hpos0 : 0 ≤ posI I n x := (posI_bd I n x).2.2.2 (bP_out hp)
          have hpos : decide (posI I n x < 0) = false := by simp; omega
          rcases k with _ | j
          · have HA : Hid (HasI n I ns[0] ∧ ((0 : Nat) < 0 → ns[0] ≠ ns[0 - 1]'(by omega))) := ⟨by rw [← Hx.out]; exact bP_out hp, fun h => absurd h (Nat.lt_irrefl _)⟩
            have hR : ∀ w', Bel wr w' → w'.cell? ⟨w.heap.size, 0, none⟩ = some (.slice x0 n y0) ∧ w'.cell? ⟨w.heap.size, 1, none⟩ = some (.slice x1 nw y1) ∧ w'.cell? ⟨w.heap.size, 2, none⟩ = some (.slice x2 na y2) ∧ w'.cell? ⟨w.heap.size + 1, 1, none⟩ = some (.slice (some ⟨b, off, none⟩) n1 c1) ∧ w'.cell? ⟨b, off, none⟩ = some (.int .i64 x) :=
              fun w' h => ⟨(Y0.bel h).cell 0 (by simp), (Y0.bel h).cell 1 (by simp), (Y0.bel h).cell 2 (by simp), (Y1.bel h).cell 1 (by simp), bel_cellM h hb (by simpa using cx)⟩
            have hMV : ∀ w', Bel wr w' → MapV w' (.agg #[.slice x0 n y0, .slice x1 nw y1, .slice x2 na y2]) m bs := fun w' h => hV'.bel (bel_step hBr h)
            have g0 : Bel wr wr := Bel.refl _
            clear hx Y0 Y1 cx hb t1 t2
            go_wp2
            refine wp_region_noPanic ?_
            refine wp_region_held_drew (S := fun w' => Bel wr w') (by kernel_rfl) (Bel.drew g0) (fun hHeld => ?_)
            refine tk 0 hHeld ?_; refine tk 1 hHeld ?_; refine tk 2 hHeld ?_; refine tk 3 hHeld ?_; refine tk 4 hHeld ?_; refine tk 5 hHeld ?_
            refine rd1 6 (fun K hK => ?_)
            go_simp
            refine (HN.out _ _ (hMV _ hHeld)).mono ?_
            rintro e w' ⟨rfl, hbk⟩
            go_wp2_with fail
            refine hK.out _ _ (bel_step hHeld hbk) (fun hHeld' => ?_)
            clear hK K hHeld
            have hHeld := hHeld'
            clear hHeld'
            try simp only [Act.put, List.setIfInBounds_toArray, List.set_cons_zero, List.set_cons_succ]
            refine tk 7 hHeld ?_; refine tk 8 hHeld ?_; refine tk 9 hHeld ?_; refine tk 10 hHeld ?_; refine tk 11 hHeld ?_
            refine sk 12 hHeld ?_; refine sk 13 hHeld ?_; refine sk 14 hHeld ?_; refine sk 15 hHeld ?_; refine sk 16 hHeld ?_
            refine sk 17 hHeld ?_; refine sk 18 hHeld ?_; refine sk 19 hHeld ?_; refine sk 20 hHeld ?_; refine sk 21 hHeld ?_
            refine sk 22 hHeld ?_; refine sk 23 hHeld ?_; refine tk 24 hHeld ?_; refine tk 25 hHeld ?_
            refine wpAnyH_done (by kernel_rfl) ?_ _
            refine NoPanic.normal ?_
            go_wp2
            go_roundw
            case rel => exact ⟨1, by omega, by go_num, (fun j h hj => by obtain rfl : j = 0 := by omega
                                                                         exact HA.out : ∀ j (h : j < ns.length), j < 1 → HasI n I ns[j] ∧ (0 < j → ns[j] ≠ ns[j - 1]'(by omega))), bel_step hbel hHeld⟩
            case measure => simp [intOf]; omega
          · obtain ⟨_, iy, cy⟩ := hx j (by omega)
            simp only [Nat.mul_one] at cy
            obtain ⟨y, Hy⟩ : ∃ y, Hid (y = ns[j]'(by omega)) := ⟨_, (rfl : ns[j]'(by omega) = _)⟩
            rw [← Hy.out] at cy iy
            have hltj : (j : Int) < (n1 : Int) := by omega
            have hj1 : IntKind.i64.wrap (j : Int) = j := by rw [IntKind.wrap_i64]; omega
            have hltk : (j : Int) + 1 < (n1 : Int) := by omega
            have hj0 : (0 : Int) ≤ (j : Int) := by omega
            have hj2 : (0 : Int) ≤ (j : Int) + 1 := by omega
            have hj3 : (0 : Int) < (j : Int) + 1 := by omega
            have htn : ((j : Int) + 1).toNat = j + 1 := by omega
            have hR : ∀ w', Bel wr w' → w'.cell? ⟨w.heap.size, 0, none⟩ = some (.slice x0 n y0) ∧ w'.cell? ⟨w.heap.size, 1, none⟩ = some (.slice x1 nw y1) ∧ w'.cell? ⟨w.heap.size, 2, none⟩ = some (.slice x2 na y2) ∧ w'.cell? ⟨w.heap.size + 1, 1, none⟩ = some (.slice (some ⟨b, off, none⟩) n1 c1) ∧ w'.cell? ⟨b, off + (j + 1), none⟩ = some (.int .i64 x) ∧ w'.cell? ⟨b, off + j, none⟩ = some (.int .i64 y) :=
              fun w' h => ⟨(Y0.bel h).cell 0 (by simp), (Y0.bel h).cell 1 (by simp), (Y0.bel h).cell 2 (by simp), (Y1.bel h).cell 1 (by simp), bel_cellM h hb cx, bel_cellM h hb cy⟩
            have hMV : ∀ w', Bel wr w' → MapV w' (.agg #[.slice x0 n y0, .slice x1 nw y1, .slice x2 na y2]) m bs := fun w' h => hV'.bel (bel_step hBr h)
            have g0 : Bel wr wr := Bel.refl _
            by_cases hxy : x = y
            · have HF : Hid (false = bP (WokP n I id tg ns)) := (bP_false fun h => by
                have := (h.h3.2.2 (j + 1) hkl).2 (Nat.succ_pos _)
                simp only [Nat.add_sub_cancel] at this
                exact this (by rw [← Hx.out, ← Hy.out]; exact hxy)).symm
              subst hxy
              clear hx Y0 Y1 cx cy hb t1 t2 Hy
              go_wp2
              go_region_held3 (fun w' => Bel wr w') (with_reducible (repeat (first | assumption | exact g0 | refine Bel.drew ?_ | refine bel_then (by assumption) ?_)))
                (first
                  | (go_at_call 48; refine (HN.out _ _ (hMV _ (by assumption))).mono ?_; rintro e w' ⟨rfl, hbk⟩))
              have hH : Bel wr w' := by assumption
              go_wp2
              go_ret
              exact ⟨ret_bl HF.out, bel_step hBr hH⟩
            · have HA : Hid (HasI n I ns[j + 1] ∧ (0 < j + 1 → ns[j + 1] ≠ ns[j + 1 - 1]'(by omega))) := ⟨by rw [← Hx.out]; exact bP_out hp, fun _ => by simp only [Nat.add_sub_cancel]; rw [← Hx.out, ← Hy.out]; exact hxy⟩
              have hxy' : (x == y) = false := by simp [hxy]
              clear hx Y0 Y1 cx cy hb t1 t2
              go_wp2
              go_region_held3 (fun w' => Bel wr w') (with_reducible (repeat (first | assumption | exact g0 | refine Bel.drew ?_ | refine bel_then (by assumption) ?_)))
                (first
                  | (go_at_call 48; refine (HN.out _ _ (hMV _ (by assumption))).mono ?_; rintro e w' ⟨rfl, hbk⟩))
              have hH : Bel wr w' := by assumption
              go_wp2
              go_roundw
              case rel => exact ⟨j + 2, by omega, by go_num, (fun i h hj => by
                  by_cases e : i = j + 1
                  · subst e; exact HA.out
                  · exact H.out i h (by omega) : ∀ i (h : i < ns.length), i < j + 2 → HasI n I ns[i] ∧ (0 < i → ns[i] ≠ ns[i - 1]'(by omega))), bel_step hbel hH⟩
              case measure => simp [intOf]; omega
      · have HT : Hid (true = bP (WokP n I id tg ns)) := (bP_true ⟨h1, h2, by rw [E1.out]; exact h3, by rw [E1.out]; exact h4, fun j h => H.out j h (by rw [E1.out] at h; omega)⟩).symm
        go_wp2
        go_ret
        exact ⟨ret_bl HT.out, hBr⟩
  · have HF : Hid (false = bP (WokP n I id tg ns)) := (bP_false fun h => h3 (by rw [← E1.out]; exact ⟨h.h3.1, h.h3.2.1⟩)).symm
    by_cases h4 : 2 ≤ n1
    · have h5 : ¬ n1 ≤ 2000 := fun h => h3 ⟨h4, h⟩
      clear h3
      go_enter Tryz.func45, Tryz.ntmps45
      go_wp2_with fail
      refine (l2IdOk_any _ _).mono ?_
      rintro e w1 ⟨rfl, rfl⟩
      rw [h1]
      go_wp2_with fail
      rw [← HW.out]
      refine (specTagsOk_any _ _ _ tg b2 _ (t2.bel2 hB) e2 m2).mono ?_
      rintro e w2 ⟨rfl, hb2⟩
      rw [h2]
      have Z1 := X1.bel hb2
      have z2 : w2.cell? ⟨w.heap.size + 1, 1, none⟩ = some (.slice a1 n1 c1) := Z1.cell 1 (by simp)
      go_wp2
      go_ret
      exact ⟨ret_bl HF.out, bel_step hB hb2⟩
    · clear h3
      go_enter Tryz.func45, Tryz.ntmps45
      go_wp2_with fail
      refine (l2IdOk_any _ _).mono ?_
      rintro e w1 ⟨rfl, rfl⟩
      rw [h1]
      go_wp2_with fail
      rw [← HW.out]
      refine (specTagsOk_any _ _ _ tg b2 _ (t2.bel2 hB) e2 m2).mono ?_
      rintro e w2 ⟨rfl, hb2⟩
      rw [h2]
      have Z1 := X1.bel hb2
      have z2 : w2.cell? ⟨w.heap.size + 1, 1, none⟩ = some (.slice a1 n1 c1) := Z1.cell 1 (by simp)
      go_wp2
      go_ret
      exact ⟨ret_bl HF.out, bel_step hB hb2⟩
end Go.Proofs.YtldfcnlhjjiihaaGreat

namespace Go.Proofs.YtldfcnlhjjiihaaGreat
open Go.RowKit Go.Maps

structure AokP (n : Nat) (I : Nat → Int) (id : Int) (tg : List TagD) (ps : List PartD) : Prop where
  h1 : idB id = true
  h2 : tagsB tg = true
  h3 : AreaP n I ps

set_option maxRecDepth 100000 in
set_option maxHeartbeats 4000000 in
theorem l2AreaOk_any (v : Value) (m : MapD) (bs : List Nat) (id : Int) (a1 : Option Addr) (n1 c1 : Nat) (ps : List PartD) (b1 : List Nat) (a2 : Option Addr) (n2 c2 : Nat) (tg : List TagD) (b2 : List Nat) (w : World) (hV : MapV w v m bs) (hl : m.ways.length ≤ 1000) (hA : AscP m.ways.length (wId m.ways) (wTg m.ways))
    (t1 : Parts w a1 ps b1) (e1 : ps.length = n1) (m1 : n1 ≤ 1048576) (t2 : Tags w a2 tg b2) (e2 : tg.length = n2) (m2 : n2 ≤ 1048576) :
    Calls Tryz.prog 46 #[v, .agg #[.int .i64 id, .slice a1 n1 c1, .slice a2 n2 c2]] w fun e w' => e = .returned (.bool (bP (AokP m.ways.length (wId m.ways) id tg ps))) ∧ Bel w w' := by
  have hV' := hV
  obtain ⟨x0, y0, x1, y1, x2, y2, d0, d1, d2, rfl, _, _, _, _⟩ := hV.out
  clear hV
  obtain ⟨nn, hnn⟩ : ∃ n, m.nodes.length = n := ⟨_, rfl⟩
  obtain ⟨n, hn⟩ : ∃ n, m.ways.length = n := ⟨_, rfl⟩
  obtain ⟨na, hna⟩ : ∃ n, m.areas.length = n := ⟨_, rfl⟩
  obtain ⟨I, hI⟩ : ∃ I, wId m.ways = I := ⟨_, rfl⟩
  have hN := fun x w0 (h : MapV w0 (.agg #[.slice x0 nn y0, .slice x1 n y1, .slice x2 na y2]) m bs) => (by have := l2Way_any _ m bs x w0 h hl hA; rw [hn, hI] at this; exact this : Calls Tryz.prog 78 #[.agg #[.slice x0 nn y0, .slice x1 n y1, .slice x2 na y2], .int .i64 x] w0 fun e w' => e = .returned (.int .i64 (posI I n x)) ∧ Bel w0 w')
  rw [hn, hnn, hna] at hV' ⊢
  rw [hI]
  have HN : Hid _ := hN
  have E1 : Hid (ps.length = n1) := e1
  clear hN hA hl hn hnn hna hI e1
  obtain ⟨W, HW⟩ : ∃ W, Hid (W = (w.alloc (.cells #[.slice x0 nn y0, .slice x1 n y1, .slice x2 na y2] 39)).alloc (.cells #[.int .i64 id, .slice a1 n1 c1, .slice a2 n2 c2] 110)) := ⟨_, (rfl : _ = _)⟩
  have hB : Bel w W := by rw [HW.out]; exact bel_alloc (bel_alloc (Bel.refl _) _) _
  have X0 : Blk W w.heap.size [.slice x0 nn y0, .slice x1 n y1, .slice x2 na y2] := by rw [HW.out]; exact (Blk.new w [.slice x0 nn y0, .slice x1 n y1, .slice x2 na y2] _).bel (bel_alloc (Bel.refl _) _)
  have X1 : Blk W (w.heap.size + 1) [.int .i64 id, .slice a1 n1 c1, .slice a2 n2 c2] := by rw [HW.out]; exact Blk.new1 w _ [.int .i64 id, .slice a1 n1 c1, .slice a2 n2 c2] _
  cases h1 : idB id
  · have HF : Hid (false = bP (AokP n I id tg ps)) := (bP_false fun h => by have := h.h1; rw [h1] at this; cases this).symm
    go_enter Tryz.func46, Tryz.ntmps46
    go_wp2_with fail
    refine (l2IdOk_any _ _).mono ?_
    rintro e w1 ⟨rfl, rfl⟩
    rw [h1]
    go_wp2
    go_ret
    exact ⟨ret_bl HF.out, bel_alloc (bel_alloc (Bel.refl _) _) _⟩
  cases h2 : tagsB tg
  · have HF : Hid (false = bP (AokP n I id tg ps)) := (bP_false fun h => by have := h.h2; rw [h2] at this; cases this).symm
    go_enter Tryz.func46, Tryz.ntmps46
    go_wp2_with fail
    refine (l2IdOk_any _ _).mono ?_
    rintro e w1 ⟨rfl, rfl⟩
    rw [h1]
    go_wp2_with fail
    rw [← HW.out]
    refine (specTagsOk_any _ _ _ tg b2 _ (t2.bel2 hB) e2 m2).mono ?_
    rintro e w2 ⟨rfl, hb2⟩
    rw [h2]
    go_wp2
    go_ret
    exact ⟨ret_bl HF.out, bel_step hB hb2⟩
  by_cases h3 : 1 ≤ n1 ∧ n1 ≤ 30
  · obtain ⟨h3, h4⟩ := h3
    go_enter Tryz.func46, Tryz.ntmps46
    go_wp2_with fail
    refine (l2IdOk_any _ _).mono ?_
    rintro e w1 ⟨rfl, rfl⟩
    rw [h1]
    go_wp2_with fail
    rw [← HW.out]
    refine (specTagsOk_any _ _ _ tg b2 _ (t2.bel2 hB) e2 m2).mono ?_
    rintro e w2 ⟨rfl, hb2⟩
    rw [h2]
    have Z0 := X0.bel hb2
    have Z1 := X1.bel hb2
    have z2 : w2.cell? ⟨w.heap.size + 1, 1, none⟩ = some (.slice a1 n1 c1) := Z1.cell 1 (by simp)
    have hB2 := bel_step hB hb2
    clear HW X0 X1 hb2 hB t2
    go_wp2
    go_loopw [5, 6] (fun i _ wr => ∃ k : Nat, k ≤ n1 ∧ i = .int .i64 k ∧ Hid (∀ j (h : j < ps.length), j < k → HasI n I ps[j].way ∧ ∀ k (hk : k < j), (ps[k]'(by omega)).way ≠ ps[j].way) ∧ Bel w2 wr) (fun i _ _ => n1 - (intOf i).toNat)
    case atStart => exact ⟨0, Nat.zero_le _, rfl, (fun j _ hj => absurd hj (Nat.not_lt_zero _) : ∀ j (h : j < ps.length), j < 0 → HasI n I ps[j].way ∧ ∀ k (hk : k < j), (ps[k]'(by omega)).way ≠ ps[j].way), Bel.refl _⟩
    case round =>
      obtain ⟨k, hk, rfl, H, hbel⟩ := hrel
      have hBr := bel_step hB2 hbel
      have Y0 := Z0.bel hbel
      have Y1 := Z1.bel hbel
      have z2r : wr.cell? ⟨w.heap.size + 1, 1, none⟩ = some (.slice a1 n1 c1) := Y1.cell 1 (by simp)
      by_cases hlt : k < n1
      · have hkl : k < ps.length := by rw [E1.out]; exact hlt
        obtain ⟨b, off, f, rfl, hb, hx⟩ := (t1.bel partE hBr).out hkl
        obtain ⟨_, ix, cx, _⟩ := hx k hkl
        obtain ⟨x, Hx⟩ : ∃ x, Hid (x = ps[k].way) := ⟨_, (rfl : ps[k].way = _)⟩
        rw [← Hx.out] at cx ix
        have hlt' : (k : Int) < (n1 : Int) := by omega
        have hR : ∀ w', Bel wr w' → w'.cell? ⟨w.heap.size, 0, none⟩ = some (.slice x0 nn y0) ∧ w'.cell? ⟨w.heap.size, 1, none⟩ = some (.slice x1 n y1) ∧ w'.cell? ⟨w.heap.size, 2, none⟩ = some (.slice x2 na y2) ∧ w'.cell? ⟨w.heap.size + 1, 1, none⟩ = some (.slice (some ⟨b, off, none⟩) n1 c1) ∧ w'.cell? ⟨b, off + k * 2, none⟩ = some (.int .i64 x) :=
          fun w' h => ⟨(Y0.bel h).cell 0 (by simp), (Y0.bel h).cell 1 (by simp), (Y0.bel h).cell 2 (by simp), (Y1.bel h).cell 1 (by simp), bel_cellM h hb cx⟩
        have hMV : ∀ w', Bel wr w' → MapV w' (.agg #[.slice x0 nn y0, .slice x1 n y1, .slice x2 na y2]) m bs := fun w' h => hV'.bel (bel_step hBr h)
        have g0 : Bel wr wr := Bel.refl _
        have HX : Hid (∀ i (h : i < ps.length), wr.cell? ⟨b, off + i * 2, none⟩ = some (.int .i64 ps[i].way)) := fun i h => (hx i h).2.2.1
        clear hx
        cases hp : bP (HasI n I x)
        · have HF : Hid (false = bP (AokP n I id tg ps)) := (bP_false fun h => bP_not hp (by rw [Hx.out]; exact (h.h3.2.2 k hkl).1)).symm
          have hpos : decide (posI I n x < 0) = true := by rw [posI_none (bP_not hp)]; decide
          clear Y0 Y1 cx hb t1
          go_wp2
          go_region_held3 (fun w' => Bel wr w') (with_reducible (repeat (first | assumption | exact g0 | refine Bel.drew ?_ | refine bel_then (by assumption) ?_)))
            (first
              | (go_at_call 78; refine (HN.out _ _ (hMV _ (by assumption))).mono ?_; rintro e w' ⟨rfl, hbk⟩))
          have hH : Bel wr w' := by assumption
          go_wp2
          go_ret
          exact ⟨ret_bl HF.out, bel_step hBr hH⟩
        · have hpos0 : 0 ≤ posI I n x := (posI_bd I n x).2.2.2 (bP_out hp)
          have hpos : decide (posI I n x < 0) = false := by simp; omega
          clear cx
          go_wp2
          go_region_held3 (fun w' => Bel wr w') (with_reducible (repeat (first | assumption | exact g0 | refine Bel.drew ?_ | refine bel_then (by assumption) ?_)))
            (first
              | (go_at_call 78; refine (HN.out _ _ (hMV _ (by assumption))).mono ?_; rintro e w' ⟨rfl, hbk⟩))
          have hH : Bel wr w' := by assumption
          have hB3 := bel_step hBr hH
          have U1 := Y1.bel hH
          have HX' : Hid (∀ i (h : i < ps.length), w'.cell? ⟨b, off + i * 2, none⟩ = some (.int .i64 ps[i].way)) := fun i h => bel_cellM hH hb (HX.out i h)
          have hb' := bel_lt hH hb
          have u1 : w'.cell? ⟨w.heap.size + 1, 1, none⟩ = some (.slice (some ⟨b, off, none⟩) n1 c1) := U1.cell 1 (by simp)
          have hBW := bel_step hbel hH
          clear Y0 Y1 hR hMV g0 HX hb z2r t1 hpos hpos0
          go_wp2
          go_loopw [6] (fun i wq => ∃ j : Nat, j ≤ k ∧ i = .int .i64 j ∧ Hid (∀ i (h : i < ps.length), i < j → ps[i].way ≠ x) ∧ Bel w' wq) (fun i _ => k - (intOf i).toNat)
          case atStart => exact ⟨0, Nat.zero_le _, rfl, (fun j _ hj => absurd hj (Nat.not_lt_zero _) : ∀ i (h : i < ps.length), i < 0 → ps[i].way ≠ x), Bel.refl _⟩
          case round =>
            obtain ⟨j, hj, rfl, HJ, hbq⟩ := hrel
            by_cases hjk : j < k
            · have hjl : j < ps.length := by rw [E1.out]; omega
              have cj := bel_cellM hbq hb' (HX'.out j hjl)
              have ck := bel_cellM hbq hb' (HX'.out k hkl)
              rw [← Hx.out] at ck
              obtain ⟨y, Hy⟩ : ∃ y, Hid (y = ps[j].way) := ⟨_, (rfl : ps[j].way = _)⟩
              rw [← Hy.out] at cj
              have uq : wr.cell? ⟨w.heap.size + 1, 1, none⟩ = some (.slice (some ⟨b, off, none⟩) n1 c1) := (U1.bel hbq).cell 1 (by simp)
              have hjn : (j : Int) < (n1 : Int) := by omega
              have hjk' : (j : Int) < (k : Int) := by omega
              by_cases hxy : y = x
              · have HF : Hid (false = bP (AokP n I id tg ps)) := (bP_false fun h => (h.h3.2.2 k hkl).2 j hjk (by rw [← Hx.out, ← Hy.out]; exact hxy)).symm
                subst hxy
                clear Hx
                go_wp2
                go_quiet (fail)
                go_wp2
                go_ret
                exact ⟨ret_bl HF.out, bel_drewN (bel_step hB3 hbq) _⟩
              · have hxy' : (y == x) = false := by simp [hxy]
                have HA : Hid (ps[j].way ≠ x) := by rw [← Hy.out]; exact hxy
                clear hxy
                go_wp2
                go_quiet (fail)
                go_wp2
                go_roundw
                case rel => exact ⟨j + 1, by omega, by go_num, (fun i h hi => by
                    by_cases e : i = j
                    · subst e; exact HA.out
                    · exact HJ.out i h (by omega) : ∀ i (h : i < ps.length), i < j + 1 → ps[i].way ≠ x), bel_drewN hbq _⟩
                case measure => simp [intOf]; omega
            · have hjk' : ¬ (j : Int) < (k : Int) := by omega
              have HA : Hid (HasI n I ps[k].way ∧ ∀ i (hi : i < k), (ps[i]'(by omega)).way ≠ ps[k].way) := ⟨by rw [← Hx.out]; exact bP_out hp, fun i hi => by rw [← Hx.out]; exact HJ.out i (by omega) (by omega)⟩
              go_wp2
              go_roundw
              case rel => exact ⟨k + 1, by omega, by go_num, (fun i h hi => by
                  by_cases e : i = k
                  · subst e; exact HA.out
                  · exact H.out i h (by omega) : ∀ j (h : j < ps.length), j < k + 1 → HasI n I ps[j].way ∧ ∀ k (hk : k < j), (ps[k]'(by omega)).way ≠ ps[j].way), bel_step hBW hbq⟩
              case measure => simp [intOf]; omega
      · have HT : Hid (true = bP (AokP n I id tg ps)) := (bP_true ⟨h1, h2, by rw [E1.out]; exact h3, by rw [E1.out]; exact h4, fun j h => H.out j h (by rw [E1.out] at h; omega)⟩).symm
        go_wp2
        go_ret
        exact ⟨ret_bl HT.out, hBr⟩
  · have HF : Hid (false = bP (AokP n I id tg ps)) := (bP_false fun h => h3 (by rw [← E1.out]; exact ⟨h.h3.1, h.h3.2.1⟩)).symm
    by_cases h4 : 1 ≤ n1
    · have h5 : ¬ n1 ≤ 30 := fun h => h3 ⟨h4, h⟩
      clear h3
      go_enter Tryz.func46, Tryz.ntmps46
      go_wp2_with fail
      refine (l2IdOk_any _ _).mono ?_
      rintro e w1 ⟨rfl, rfl⟩
      rw [h1]
      go_wp2_with fail
      rw [← HW.out]
      refine (specTagsOk_any _ _ _ tg b2 _ (t2.bel2 hB) e2 m2).mono ?_
      rintro e w2 ⟨rfl, hb2⟩
      rw [h2]
      have Z1 := X1.bel hb2
      have z2 : w2.cell? ⟨w.heap.size + 1, 1, none⟩ = some (.slice a1 n1 c1) := Z1.cell 1 (by simp)
      go_wp2
      go_ret
      exact ⟨ret_bl HF.out, bel_step hB hb2⟩
    · clear h3
      go_enter Tryz.func46, Tryz.ntmps46
      go_wp2_with fail
      refine (l2IdOk_any _ _).mono ?_
      rintro e w1 ⟨rfl, rfl⟩
      rw [h1]
      go_wp2_with fail
      rw [← HW.out]
      refine (specTagsOk_any _ _ _ tg b2 _ (t2.bel2 hB) e2 m2).mono ?_
      rintro e w2 ⟨rfl, hb2⟩
      rw [h2]
      have Z1 := X1.bel hb2
      have z2 : w2.cell? ⟨w.heap.size + 1, 1, none⟩ = some (.slice a1 n1 c1) := Z1.cell 1 (by simp)
      go_wp2
      go_ret
      exact ⟨ret_bl HF.out, bel_step hB hb2⟩
end Go.Proofs.YtldfcnlhjjiihaaGreat
