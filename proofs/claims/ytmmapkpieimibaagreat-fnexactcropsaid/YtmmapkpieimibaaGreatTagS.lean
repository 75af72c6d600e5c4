/-
  Contracts of TagsOk in the model, and of TagOf in the program and in its model: for every list of tags.
-/
import Derived.Test.YtmmapkpieimibaaGreatTagC
namespace Go.Proofs.YtmmapkpieimibaaGreat
open Go.RowKit

set_option maxHeartbeats 2000000 in
theorem specTagsOk_any (a : Option Addr) (n c : Nat) (l : List TagD) (bs : List Nat) (w : World) (hT : Tags w a l bs) (hn : l.length = n) (hm : n ≤ 1048576) :
    Calls Tryz.prog 75 #[.slice a n c] w fun e w' => e = .returned (.bool (tagsB l)) ∧ Bel w w' := by
  have Hn : Hid (l.length = n) := hn
  clear hn
  by_cases h30 : n ≤ 30
  · go_enter Tryz.func75, Tryz.ntmps75
    go_wp2
    go_loopw [3] (fun i wr => ∃ k : Nat, k ≤ n ∧ i = .int .i64 k ∧ (∀ j (h : j < l.length), j < k → TagOkAt l j h) ∧ Bel w wr) (fun i _ => n - (intOf i).toNat)
    case atStart => exact ⟨0, Nat.zero_le _, rfl, fun j _ hj => absurd hj (Nat.not_lt_zero _), Bel.refl _⟩
    case round =>
      obtain ⟨k, hk, rfl, hall, hbel⟩ := hrel
      have H : Hid (∀ j (h : j < l.length), j < k → TagOkAt l j h) := hall
      clear hall
      by_cases hlt : k < n
      · have hkl : k < l.length := by rw [Hn.out]; exact hlt
        have hlt' : (k : Int) < (n : Int) := by omega
        obtain ⟨b, off, f, rfl, hb, hx⟩ := (hT.bel2 hbel).out hkl
        obtain ⟨_, sk, sv, ck, cv⟩ := hx k hkl
        obtain ⟨K, HK⟩ : ∃ K, Hid (K = l[k].k) := ⟨_, (rfl : l[k].k = _)⟩
        obtain ⟨V, HV⟩ : ∃ V, Hid (V = l[k].v) := ⟨_, (rfl : l[k].v = _)⟩
        rw [← HK.out] at ck sk
        rw [← HV.out] at cv sv
        cases hwk : wordB K
        · have HF : Hid (false = tagsB l) := (tagsB_at hkl fun h => by have := h.1; rw [← HK.out, hwk] at this; cases this).symm
          clear hx hT
          go_wp2
          go_quiet ((go_at_call 103; exact Calls.quiet_of_same ((l2WordOk_any _ _ sk).mono (by rintro e w' ⟨rfl, rfl⟩; exact ⟨rfl, rfl⟩))))
          go_wp2
          go_ret
          exact ⟨ret_bl HF.out, bel_drewN hbel _⟩
        · cases hvk : valB V
          · have HF : Hid (false = tagsB l) := (tagsB_at hkl fun h => by have := h.2.1; rw [← HV.out, hvk] at this; cases this).symm
            clear hx hT
            go_wp2
            go_quiet ((first | (go_at_call 103; exact Calls.quiet_of_same ((l2WordOk_any _ _ sk).mono (by rintro e w' ⟨rfl, rfl⟩; exact ⟨rfl, rfl⟩))) | (go_at_call 104; exact Calls.quiet_of_same ((l2ValueOk_any _ _ sv).mono (by rintro e w' ⟨rfl, rfl⟩; exact ⟨rfl, rfl⟩)))))
            go_wp2
            go_ret
            exact ⟨ret_bl HF.out, bel_drewN hbel _⟩
          · rcases k with _ | m
            · have HA : Hid (TagOkAt l 0 hkl) := ⟨by rw [← HK.out]; exact hwk, by rw [← HV.out]; exact hvk, fun h => absurd h (Nat.lt_irrefl _)⟩
              simp only [Nat.zero_mul, Nat.add_zero] at ck cv
              clear hx hT
              go_wp2
              go_quiet ((first | (go_at_call 103; exact Calls.quiet_of_same ((l2WordOk_any _ _ sk).mono (by rintro e w' ⟨rfl, rfl⟩; exact ⟨rfl, rfl⟩))) | (go_at_call 104; exact Calls.quiet_of_same ((l2ValueOk_any _ _ sv).mono (by rintro e w' ⟨rfl, rfl⟩; exact ⟨rfl, rfl⟩)))))
              go_wp2
              go_roundw
              case rel => exact ⟨1, by omega, by go_num, fun j h hj => by obtain rfl : j = 0 := by omega
                                                                          exact HA.out, bel_drewN hbel _⟩
              case measure => simp [intOf]; omega
            · obtain ⟨_, _, _, cp, _⟩ := hx m (by omega)
              obtain ⟨P, HP⟩ : ∃ P, Hid (P = (l[m]'(by omega)).k) := ⟨_, (rfl : (l[m]'(by omega)).k = _)⟩
              rw [← HP.out] at cp
              have hltm : (m : Int) < (n : Int) := by omega
              have hm1 : IntKind.i64.wrap ((m : Int) + 1 - 1) = m := by rw [IntKind.wrap_i64]; omega
              cases hlp : ltS P K
              · have HF : Hid (false = tagsB l) := (tagsB_at hkl fun h => by
                  have := h.2.2 (Nat.succ_pos _)
                  simp only [Nat.add_sub_cancel] at this
                  rw [← HK.out, ← HP.out, hlp] at this; cases this).symm
                unfold ltS at hlp
                clear hx hT
                go_wp2
                go_quiet ((first | (go_at_call 103; exact Calls.quiet_of_same ((l2WordOk_any _ _ sk).mono (by rintro e w' ⟨rfl, rfl⟩; exact ⟨rfl, rfl⟩))) | (go_at_call 104; exact Calls.quiet_of_same ((l2ValueOk_any _ _ sv).mono (by rintro e w' ⟨rfl, rfl⟩; exact ⟨rfl, rfl⟩)))))
                go_wp2
                go_ret
                exact ⟨ret_bl HF.out, bel_drewN hbel _⟩
              · have HA : Hid (TagOkAt l (m + 1) hkl) := ⟨by rw [← HK.out]; exact hwk, by rw [← HV.out]; exact hvk, fun _ => by simp only [Nat.add_sub_cancel]; rw [← HK.out, ← HP.out]; exact hlp⟩
                unfold ltS at hlp
                clear hx hT
                go_wp2
                go_quiet ((first | (go_at_call 103; exact Calls.quiet_of_same ((l2WordOk_any _ _ sk).mono (by rintro e w' ⟨rfl, rfl⟩; exact ⟨rfl, rfl⟩))) | (go_at_call 104; exact Calls.quiet_of_same ((l2ValueOk_any _ _ sv).mono (by rintro e w' ⟨rfl, rfl⟩; exact ⟨rfl, rfl⟩)))))
                go_wp2
                go_roundw
                case rel => exact ⟨m + 2, by omega, by go_num, fun j h hj => by
                                (by_cases e : j = m + 1)
                                · subst e; exact HA.out
                                · exact H.out j h (by omega), bel_drewN hbel _⟩
                case measure => simp [intOf]; omega
      · have HT : Hid (true = tagsB l) := (tagsB_true (by rw [Hn.out]; exact h30) fun j h => H.out j h (by rw [Hn.out] at h; omega)).symm
        go_wp2
        go_ret
        exact ⟨ret_bl (by rw [← HT.out] <;> first | rfl | (simp; done) | (simp; omega)), hbel⟩
  · have HF : Hid (false = tagsB l) := (tagsB_big (by rw [Hn.out]; exact h30)).symm
    go_enter Tryz.func75, Tryz.ntmps75
    go_wp2
    go_loopw [3] (fun i wr => i = .int .i64 0 ∧ wr = w) (fun _ _ => 0)
    case atStart => exact ⟨rfl, rfl⟩
    case round =>
      obtain ⟨rfl, rfl⟩ := hrel
      go_wp2
      all_goals
        go_ret
        exact ⟨ret_bl (by rw [← HF.out] <;> first | rfl | (simp; done) | (simp; omega)), Bel.refl _⟩

/-- The Value of the first with that Key. -/
def tagOfL : List TagD → ByteArray → ByteArray
  | [], _ => ⟨#[]⟩
  | t :: r, key => if t.k.toList == key.toList then t.v else tagOfL r key
theorem tagOfL_at : ∀ (l : List TagD) (key : ByteArray) (k : Nat) (hk : k < l.length), (∀ j (h : j < l.length), j < k → (l[j].k.toList == key.toList) = false) → (l[k].k.toList == key.toList) = true → tagOfL l key = l[k].v
  | t :: r, key, 0, _, _, h => by simp only [List.getElem_cons_zero] at h; simp [tagOfL, h]
  | t :: r, key, k + 1, hk, ha, h => by
    have h0 := ha 0 (Nat.succ_pos _) (Nat.succ_pos _)
    simp only [List.getElem_cons_zero] at h0
    simp only [List.getElem_cons_succ] at h
    simp only [tagOfL, h0, Bool.false_eq_true, if_false, List.getElem_cons_succ]
    exact tagOfL_at r key k (by simpa using hk) (fun j hj hjk => ha (j + 1) (by simpa using hj) (by omega)) h
theorem tagOfL_none : ∀ (l : List TagD) (key : ByteArray), (∀ j (h : j < l.length), (l[j].k.toList == key.toList) = false) → tagOfL l key = ⟨#[]⟩
  | [], _, _ => rfl
  | t :: r, key, ha => by
    have h0 := ha 0 (Nat.succ_pos _)
    simp only [List.getElem_cons_zero] at h0
    simp only [tagOfL, h0, Bool.false_eq_true, if_false]
    exact tagOfL_none r key (fun j hj => ha (j + 1) (by simpa using hj))
theorem ret_str {a b : ByteArray} (h : a = b) : Ending.returned (.string a) = .returned (.string b) := by rw [h]

end Go.Proofs.YtmmapkpieimibaaGreat
