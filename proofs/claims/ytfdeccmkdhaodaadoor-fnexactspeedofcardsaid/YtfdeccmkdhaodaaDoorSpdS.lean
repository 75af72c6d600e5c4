/-
  l7Number of the model.
-/
import Derived.Test.YtfdeccmkdhaodaaDoorSpdN
namespace Go.Proofs.YtfdeccmkdhaodaaDoor
open Go.RowKit

/-- The number where it is at most m; else -1. -/
def l7Q (s : ByteArray) (m : Int) : Int := if textB db 10 s = true ∧ nmV s ≤ m then nmV s else -1

set_option maxHeartbeats 1000000 in
theorem l7Number_any (s : ByteArray) (m : Int) (w : World) (hs : s.size ≤ maxLen) :
    Calls Tryd.prog 11 #[.string s, .int .i64 m] w fun e w' => e = .returned (.int .i64 (l7Q s m)) ∧ w' = w := by
  unfold maxLen at hs
  by_cases h1 : 1 ≤ s.size
  · by_cases h2 : s.size ≤ 10
    · have h0 : ((s.size : Int) == 0) = false := by rw [beq_eq_false_iff_ne]; omega
      go_enter Tryd.func11, Tryd.ntmps11
      go_wp2
      go_loop [5, 6] (fun v i => ∃ (k : Nat) (x : Int), k ≤ s.size ∧ i = .int .i64 k ∧ v = .int .i64 x ∧ Hid (x = (nmN s k : Int)) ∧ ∀ j, j < k → db (byteAt s j) = true) (fun _ i => s.size - (intOf i).toNat)
      case atStart => exact ⟨0, 0, Nat.zero_le _, rfl, rfl, rfl, fun j hj => absurd hj (Nat.not_lt_zero _)⟩
      case round =>
        obtain ⟨k, x, hk, rfl, rfl, HX, hall⟩ := hrel
        have hx1 : x < 10000000000 := by
          have a := nmN_lt k hk hall
          have b : 10 ^ k ≤ 10 ^ 10 := Nat.pow_le_pow_right (by decide) (by omega)
          have c := HX.out
          omega
        have hx0 : 0 ≤ x := by have c := HX.out; omega
        have H : Hid (∀ j, j < k → db (byteAt s j) = true) := hall
        clear hall
        by_cases hlt : k < s.size
        · obtain ⟨c, Hc⟩ : ∃ c, Hid ((s[k].toNat : Int) = c) := ⟨_, (rfl : (s[k].toNat : Int) = _)⟩
          have HB : Hid (c = byteAt s k) := by have := byteAt_eq hlt; rw [Hc.out] at this; exact this
          have hS : Hid (nmN s (k + 1) = nmN s k * 10 + ((byteAt s k).toNat - 48)) := nmN_succ hlt
          have hc0 : 0 ≤ c := by rw [HB.out]; exact (byteAt_bd s k).1
          have hc1 : c ≤ 255 := by rw [HB.out]; exact (byteAt_bd s k).2
          have hr : (s[k].toNat : Int) = c := Hc.out
          by_cases t3 : 48 ≤ c <;> by_cases t4 : c ≤ 57
          · have hk' : k < s.size := hlt
            go_wp2
            go_round
            case rel =>
              exact ⟨k + 1, x * 10 + (c - 48), by omega, by go_num, by go_num, by
                have a := hS.out
                have b := HX.out
                rw [← HB.out] at a
                have d : Hid (x * 10 + (c - 48) = (nmN s (k + 1) : Int)) := (by omega : x * 10 + (c - 48) = (nmN s (k + 1) : Int))
                exact d, fun j hj => by (by_cases e : j = k); (subst e; rw [← HB.out]; unfold db; simp only [decide_eq_true_eq]; omega); exact H.out j (by omega)⟩
            case measure => simp [intOf]; omega
          all_goals
            have HF : Hid (-1 = l7Q s m) := show -1 = l7Q s m by
              unfold l7Q
              rw [if_neg (by
                rintro ⟨h, _⟩
                have e := textB_at (p := db) (m := 10) hlt (by rw [← HB.out]; unfold db; simp only [decide_eq_false_iff_not]; omega)
                rw [e] at h; cases h)]
            go_wp2
            go_ret
            exact ⟨ret_num HF.out, rfl⟩
        · have e : k = s.size := by omega
          have HT : Hid (textB db 10 s = true) := textB_true h1 h2 (by rw [← e]; exact H.out)
          have hV : Hid (nmV s = x) := show nmV s = x by
            have a := HX.out
            unfold nmV
            rw [a, e]
          by_cases hm : x ≤ m
          · have HQ : Hid (x = l7Q s m) := show x = l7Q s m by unfold l7Q; rw [hV.out, if_pos ⟨HT.out, hm⟩]
            clear hx1 hx0
            go_wp2
            go_ret
            exact ⟨ret_num HQ.out, rfl⟩
          · have HQ : Hid (-1 = l7Q s m) := show -1 = l7Q s m by unfold l7Q; rw [hV.out, if_neg (by rintro ⟨_, h⟩; exact hm h)]
            clear hx1 hx0
            go_wp2
            go_ret
            exact ⟨ret_num HQ.out, rfl⟩
    · have HF : Hid (-1 = l7Q s m) := show -1 = l7Q s m by unfold l7Q; rw [if_neg (by rintro ⟨h, _⟩; rw [textB_not (by omega)] at h; cases h)]
      have h0 : ((s.size : Int) == 0) = false := by rw [beq_eq_false_iff_ne]; omega
      go_enter Tryd.func11, Tryd.ntmps11
      go_wp2
      go_ret
      exact ⟨ret_num HF.out, rfl⟩
  · have HF : Hid (-1 = l7Q s m) := show -1 = l7Q s m by unfold l7Q; rw [if_neg (by rintro ⟨h, _⟩; rw [textB_not (by omega)] at h; cases h)]
    have h0 : ((s.size : Int) == 0) = true := by rw [beq_iff_eq]; omega
    go_enter Tryd.func11, Tryd.ntmps11
    go_wp2
    go_ret
    exact ⟨ret_num HF.out, rfl⟩

end Go.Proofs.YtfdeccmkdhaodaaDoor
