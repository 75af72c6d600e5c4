/-
  Contracts of TagsOk, in the program and in its model: for every list of tags.
-/
import Derived.Test.YtmmapkpieimibaaGreatTagM
namespace Go.Proofs.YtmmapkpieimibaaGreat
open Go.RowKit

set_option maxHeartbeats 2000000 in
theorem tagsOk_any (a : Option Addr) (n c : Nat) (l : List TagD) (bs : List Nat) (w : World) (hT : Tags w a l bs) (hn : l.length = n) (hm : n ≤ 1048576) :
    Calls Tryz.prog 150 #[.slice a n c] w fun e w' => e = .returned (.bool (tagsB l)) ∧ Bel w w' := by
  have Hn : Hid (l.length = n) := hn
  clear hn
  by_cases h30 : n ≤ 30
  · go_enter Tryz.func150, Tryz.ntmps150
    go_wp2
    go_loopw [3, 4, 10] (fun _ _ i wr => ∃ k : Nat, k ≤ n ∧ i = .int .i64 k ∧ (∀ j (h : j < l.length), j < k → TagOkAt l j h) ∧ Bel w wr) (fun _ _ i _ => n - (intOf i).toNat)
    case atStart => exact ⟨0, Nat.zero_le _, rfl, fun j _ hj => absurd hj (Nat.not_lt_zero _), Bel.refl _⟩
    case round =>
      obtain ⟨k, hk, rfl, hall, hbel⟩ := hrel
      have H : Hid (∀ j (h : j < l.length), j < k → TagOkAt l j h) := hall
      clear hall
      by_cases hlt : k < n
      · have hkl : k < l.length := by rw [Hn.out]; exact hlt
        obtain ⟨b, off, f, rfl, hb, hx⟩ := (hT.bel2 hbel).out hkl
        obtain ⟨_, sk, sv, ck, cv⟩ := hx k hkl
        obtain ⟨K, HK⟩ : ∃ K, Hid (K = l[k].k) := ⟨_, (rfl : l[k].k = _)⟩
        obtain ⟨V, HV⟩ : ∃ V, Hid (V = l[k].v) := ⟨_, (rfl : l[k].v = _)⟩
        rw [← HK.out] at ck sk
        rw [← HV.out] at cv sv
        cases hwk : wordB K
        · have HF : Hid (false = tagsB l) := (tagsB_at hkl fun h => by have := h.1; rw [← HK.out, hwk] at this; cases this).symm
          clear hx hT
          go_wp2_with (first | (go_at_call 151; refine (wordOk_any _ _ sk).mono ?_; rintro e w' ⟨rfl, rfl⟩))
          go_ret
          exact ⟨ret_bl HF.out, bel_alloc hbel _⟩
        · cases hvk : valB V
          · have HF : Hid (false = tagsB l) := (tagsB_at hkl fun h => by have := h.2.1; rw [← HV.out, hvk] at this; cases this).symm
            clear hx hT
            go_wp2_with (first | (go_at_call 151; refine (wordOk_any _ _ sk).mono ?_; rintro e w' ⟨rfl, rfl⟩) | (go_at_call 152; refine (valueOk_any _ _ sv).mono ?_; rintro e w' ⟨rfl, rfl⟩))
            go_ret
            exact ⟨ret_bl HF.out, bel_alloc hbel _⟩
          · rcases k with _ | m
            · have HA : Hid (TagOkAt l 0 hkl) := ⟨by rw [← HK.out]; exact hwk, by rw [← HV.out]; exact hvk, fun h => absurd h (Nat.lt_irrefl _)⟩
              simp only [Nat.zero_mul, Nat.add_zero] at ck cv
              clear hx hT
              go_wp2_with (first | (go_at_call 151; refine (wordOk_any _ _ sk).mono ?_; rintro e w' ⟨rfl, rfl⟩) | (go_at_call 152; refine (valueOk_any _ _ sv).mono ?_; rintro e w' ⟨rfl, rfl⟩))
              go_quiet (fail)
              go_wp2
              go_roundw
              case rel => exact ⟨1, by omega, by go_num, fun j h hj => by obtain rfl : j = 0 := by omega
                                                                          exact HA.out, bel_drewN (bel_alloc hbel _) _⟩
              case measure => simp [intOf]; omega
            · obtain ⟨_, _, _, cp, _⟩ := hx m (by omega)
              obtain ⟨P, HP⟩ : ∃ P, Hid (P = (l[m]'(by omega)).k) := ⟨_, (rfl : (l[m]'(by omega)).k = _)⟩
              rw [← HP.out] at cp
              have hcmp := leS K P
              have hm1 : ((m : Int) + 1) - 1 = m := by omega
              have hltm : (m : Int) < (n : Int) := by omega
              cases hlp : ltS P K
              · have HF : Hid (false = tagsB l) := (tagsB_at hkl fun h => by
                  have := h.2.2 (Nat.succ_pos _)
                  simp only [Nat.add_sub_cancel] at this
                  rw [← HK.out, ← HP.out, hlp] at this; cases this).symm
                rw [hlp] at hcmp
                clear hx hT
                go_wp2_with (first | (go_at_call 151; refine (wordOk_any _ _ sk).mono ?_; rintro e w' ⟨rfl, rfl⟩) | (go_at_call 152; refine (valueOk_any _ _ sv).mono ?_; rintro e w' ⟨rfl, rfl⟩))
                go_quiet (fail)
                go_wp2
                go_ret
                exact ⟨ret_bl HF.out, bel_drewN (bel_alloc hbel _) _⟩
              · have HA : Hid (TagOkAt l (m + 1) hkl) := ⟨by rw [← HK.out]; exact hwk, by rw [← HV.out]; exact hvk, fun _ => by simp only [Nat.add_sub_cancel]; rw [← HK.out, ← HP.out]; exact hlp⟩
                rw [hlp] at hcmp
                clear hx hT
                go_wp2_with (first | (go_at_call 151; refine (wordOk_any _ _ sk).mono ?_; rintro e w' ⟨rfl, rfl⟩) | (go_at_call 152; refine (valueOk_any _ _ sv).mono ?_; rintro e w' ⟨rfl, rfl⟩))
                go_quiet (fail)
                go_wp2
                go_roundw
                case rel => exact ⟨m + 2, by omega, by go_num, fun j h hj => by
                                (by_cases e : j = m + 1)
                                · subst e; exact HA.out
                                · exact H.out j h (by omega), bel_drewN (bel_alloc hbel _) _⟩
                case measure => simp [intOf]; omega
      · have HT : Hid (true = tagsB l) := (tagsB_true (by rw [Hn.out]; exact h30) fun j h => H.out j h (by rw [Hn.out] at h; omega)).symm
        go_wp2
        go_ret
        exact ⟨ret_bl HT.out, hbel⟩
  · have HF : Hid (false = tagsB l) := (tagsB_big (by rw [Hn.out]; exact h30)).symm
    go_enter Tryz.func150, Tryz.ntmps150
    go_wp2
    go_ret
    exact ⟨ret_bl HF.out, Bel.refl _⟩
end Go.Proofs.YtmmapkpieimibaaGreat
