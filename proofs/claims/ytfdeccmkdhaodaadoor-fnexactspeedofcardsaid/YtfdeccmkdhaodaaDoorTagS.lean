/-
  Contracts of TagsOk in the model, and of TagOf in the program and in its model: for every list of tags.
-/
import Derived.Test.YtfdeccmkdhaodaaDoorTagC
namespace Go.Proofs.YtfdeccmkdhaodaaDoor
open Go.RowKit

/-- The Value of the first with that Key. -/
def tagOfL : List TagD → ByteArray → ByteArray
  | [], _ => ⟨#[]⟩
  | t :: r, key => if t.k.toList == key.toList then t.v else tagOfL r key
theorem tagOfL_at : ∀ (l : List TagD) (key : ByteArray) (k : Nat) (hk : k < l.length), (∀ j (h : j < l.length), j < k → (l[j].k.toList == key.toList) = false) → (l[k].k.toList == key.toList) = true → tagOfL l key = l[k].v
  | t :: r, key, 0, _, _, h => by simp only [List.getElem_cons_zero] at h; simp [tagOfL, h]
  | t :: r, key, k + 1, hk, ha, h => by
    have h0 := ha 0 (Nat.succ_pos _) (Nat.succ_pos _)
    simp only [List.getElem_cons_zero] at h0
    simp only [List.getElem_cons_succ] at h
    simp only [tagOfL, h0, Bool.false_eq_true, if_false, List.getElem_cons_succ]
    exact tagOfL_at r key k (by simpa using hk) (fun j hj hjk => ha (j + 1) (by simpa using hj) (by omega)) h
theorem tagOfL_none : ∀ (l : List TagD) (key : ByteArray), (∀ j (h : j < l.length), (l[j].k.toList == key.toList) = false) → tagOfL l key = ⟨#[]⟩
  | [], _, _ => rfl
  | t :: r, key, ha => by
    have h0 := ha 0 (Nat.succ_pos _)
    simp only [List.getElem_cons_zero] at h0
    simp only [tagOfL, h0, Bool.false_eq_true, if_false]
    exact tagOfL_none r key (fun j hj => ha (j + 1) (by simpa using hj))
theorem ret_str {a b : ByteArray} (h : a = b) : Ending.returned (.string a) = .returned (.string b) := by rw [h]

set_option maxHeartbeats 1000000 in
theorem tagOf_any (a : Option Addr) (n c : Nat) (l : List TagD) (bs : List Nat) (key : ByteArray) (w : World) (hT : Tags w a l bs) (hn : l.length = n) (hm : n ≤ 1048576) :
    Calls Tryd.prog 13 #[.slice a n c, .string key] w fun e w' => e = .returned (.string (tagOfL l key)) ∧ Bel w w' := by
  have Hn : Hid (l.length = n) := hn
  clear hn
  go_enter Tryd.func13, Tryd.ntmps13
  go_wp2
  go_loopw [6, 9] (fun _ i wr => ∃ k : Nat, k ≤ n ∧ i = .int .i64 k ∧ (∀ j (h : j < l.length), j < k → (l[j].k.toList == key.toList) = false) ∧ Bel w wr) (fun _ i _ => n - (intOf i).toNat)
  case atStart => exact ⟨0, Nat.zero_le _, rfl, fun j _ hj => absurd hj (Nat.not_lt_zero _), Bel.refl _⟩
  case round =>
    obtain ⟨k, hk, rfl, hall, hbel⟩ := hrel
    have H : Hid (∀ j (h : j < l.length), j < k → (l[j].k.toList == key.toList) = false) := hall
    clear hall
    by_cases hlt : k < n
    · have hkl : k < l.length := by rw [Hn.out]; exact hlt
      obtain ⟨b, off, f, rfl, hb, hx⟩ := (hT.bel2 hbel).out hkl
      obtain ⟨_, sk, sv, ck, cv⟩ := hx k hkl
      obtain ⟨K, HK⟩ : ∃ K, Hid (K = l[k].k) := ⟨_, (rfl : l[k].k = _)⟩
      obtain ⟨V, HV⟩ : ∃ V, Hid (V = l[k].v) := ⟨_, (rfl : l[k].v = _)⟩
      rw [← HK.out] at ck sk
      rw [← HV.out] at cv sv
      clear hx hT
      cases he : (K.toList == key.toList)
      · have HA : Hid ((l[k].k.toList == key.toList) = false) := by rw [← HK.out]; exact he
        go_wp2
        go_roundw
        case rel => exact ⟨k + 1, by omega, by go_num, fun j h hj => by
                        (by_cases e : j = k)
                        · subst e; exact HA.out
                        · exact H.out j h (by omega), bel_alloc hbel _⟩
        case measure => simp [intOf]; omega
      · have HA : Hid (tagOfL l key = V) := by rw [HV.out]; exact tagOfL_at l key k hkl H.out (by rw [← HK.out]; exact he)
        go_wp2
        go_ret
        exact ⟨ret_str HA.out.symm, bel_alloc hbel _⟩
    · have HA : Hid (tagOfL l key = ⟨#[]⟩) := tagOfL_none l key fun j h => H.out j h (by rw [Hn.out] at h; omega)
      go_wp2
      go_ret
      exact ⟨ret_str HA.out.symm, hbel⟩

set_option maxHeartbeats 1000000 in
theorem specTagOf_any (a : Option Addr) (n c : Nat) (l : List TagD) (bs : List Nat) (key : ByteArray) (w : World) (hT : Tags w a l bs) (hn : l.length = n) (hm : n ≤ 1048576) :
    Calls Tryd.prog 10 #[.slice a n c, .string key] w fun e w' => e = .returned (.string (tagOfL l key)) ∧ Bel w w' := by
  have Hn : Hid (l.length = n) := hn
  clear hn
  go_enter Tryd.func10, Tryd.ntmps10
  go_wp2
  go_loopw [5] (fun i wr => ∃ k : Nat, k ≤ n ∧ i = .int .i64 k ∧ (∀ j (h : j < l.length), j < k → (l[j].k.toList == key.toList) = false) ∧ Bel w wr) (fun i _ => n - (intOf i).toNat)
  case atStart => exact ⟨0, Nat.zero_le _, rfl, fun j _ hj => absurd hj (Nat.not_lt_zero _), Bel.refl _⟩
  case round =>
    obtain ⟨k, hk, rfl, hall, hbel⟩ := hrel
    have H : Hid (∀ j (h : j < l.length), j < k → (l[j].k.toList == key.toList) = false) := hall
    clear hall
    by_cases hlt : k < n
    · have hkl : k < l.length := by rw [Hn.out]; exact hlt
      obtain ⟨b, off, f, rfl, hb, hx⟩ := (hT.bel2 hbel).out hkl
      obtain ⟨_, sk, sv, ck, cv⟩ := hx k hkl
      obtain ⟨K, HK⟩ : ∃ K, Hid (K = l[k].k) := ⟨_, (rfl : l[k].k = _)⟩
      obtain ⟨V, HV⟩ : ∃ V, Hid (V = l[k].v) := ⟨_, (rfl : l[k].v = _)⟩
      rw [← HK.out] at ck sk
      rw [← HV.out] at cv sv
      clear hx hT
      cases he : (K.toList == key.toList)
      · have HA : Hid ((l[k].k.toList == key.toList) = false) := by rw [← HK.out]; exact he
        go_wp2
        go_roundw
        case rel => exact ⟨k + 1, by omega, by go_num, fun j h hj => by
                        (by_cases e : j = k)
                        · subst e; exact HA.out
                        · exact H.out j h (by omega), hbel⟩
        case measure => simp [intOf]; omega
      · have HA : Hid (tagOfL l key = V) := by rw [HV.out]; exact tagOfL_at l key k hkl H.out (by rw [← HK.out]; exact he)
        go_wp2
        go_ret
        exact ⟨ret_str HA.out.symm, hbel⟩
    · have HA : Hid (tagOfL l key = ⟨#[]⟩) := tagOfL_none l key fun j h => H.out j h (by rw [Hn.out] at h; omega)
      go_wp2
      go_ret
      exact ⟨ret_str HA.out.symm, hbel⟩
end Go.Proofs.YtfdeccmkdhaodaaDoor
