/-
  Contracts of what a Key and a Value may be, in the program and in its model: for every text.
-/
import Derived.Test.YtkmccjjghpnejaaGeo
import Derived.WalkLawsBesides
namespace Go.Proofs.Ytkmccjjghpnejaa
open Go.RowKit

/-- A byte of a Key. -/
def wb (n : Int) : Bool := decide (97 ≤ n ∧ n ≤ 122 ∨ 48 ≤ n ∧ n ≤ 57 ∨ n = 58 ∨ n = 95)
/-- A byte of a Value. -/
def vb (n : Int) : Bool := decide (32 ≤ n ∧ n ≤ 126)
/-- The byte at a place, as a number. -/
def byteAt (s : ByteArray) (i : Nat) : Int := ((s.data.toList.getD i 0).toNat : Int)
theorem byteAt_eq {s : ByteArray} {i : Nat} (h : i < s.size) : (s[i].toNat : Int) = byteAt s i := by
  have h' : i < s.data.toList.length := by simpa using h
  unfold byteAt
  rw [List.getD_eq_getElem?_getD, List.getElem?_eq_getElem h']
  rfl
theorem byteAt_bd (s : ByteArray) (i : Nat) : 0 ≤ byteAt s i ∧ byteAt s i ≤ 255 := by
  unfold byteAt
  have := (s.data.toList.getD i 0).toNat_lt
  omega
/-- A text of at least 1 and at most m bytes, each as p says. -/
def textB (p : Int → Bool) (m : Nat) (s : ByteArray) : Bool := decide (1 ≤ s.size ∧ s.size ≤ m ∧ ∀ i, i < s.size → p (byteAt s i) = true)
theorem textB_not {p : Int → Bool} {m : Nat} {s : ByteArray} (h : ¬ (1 ≤ s.size ∧ s.size ≤ m)) : textB p m s = false := by
  simp only [textB, decide_eq_false_iff_not]; intro hh; exact h ⟨hh.1, hh.2.1⟩
theorem textB_at {p : Int → Bool} {m : Nat} {s : ByteArray} {i : Nat} (h : i < s.size) (hp : p (byteAt s i) = false) : textB p m s = false := by
  simp only [textB, decide_eq_false_iff_not]; intro hh; have := hh.2.2 i h; rw [hp] at this; cases this
theorem textB_true {p : Int → Bool} {m : Nat} {s : ByteArray} (h : 1 ≤ s.size) (h' : s.size ≤ m) (ha : ∀ i, i < s.size → p (byteAt s i) = true) : textB p m s = true := by
  simp only [textB, decide_eq_true_eq]; exact ⟨h, h', ha⟩
theorem ret_bl {a b : Bool} (h : a = b) : Ending.returned (.bool a) = .returned (.bool b) := by rw [h]
def wordB (s : ByteArray) : Bool := textB wb 40 s
def valB (s : ByteArray) : Bool := textB vb 100 s

theorem valueByteOk_any (n : Int) (w : World) :
    Calls Try.prog 95 #[.int .u8 n] w fun e w' => e = .returned (.bool (vb n)) ∧ w' = w := by
  by_cases h1 : 32 ≤ n <;> by_cases h2 : n ≤ 126 <;> (
    go_enter Try.func95, Try.ntmps95
    go_wp2
    go_ret
    exact ⟨ret_bl (by unfold vb; simp <;> omega), rfl⟩)


set_option maxHeartbeats 1000000 in
theorem textValue_any (s : ByteArray) (w : World) (hs : s.size ≤ maxLen) :
    Calls Try.prog 94 #[.string s, .int .i64 100, .func (.func 95) #[] #[]] w fun e w' => e = .returned (.bool (textB vb 100 s)) ∧ w' = w := by
  unfold maxLen at hs
  by_cases h1 : 1 ≤ s.size
  · by_cases h2 : s.size ≤ 100
    · go_enter Try.func94, Try.ntmps94
      go_wp2
      go_loop [7, 19] (fun _ i => ∃ k : Nat, k ≤ s.size ∧ i = .int .i64 k ∧ ∀ j, j < k → vb (byteAt s j) = true) (fun _ i => s.size - (intOf i).toNat)
      case atStart => exact ⟨0, Nat.zero_le _, rfl, fun j hj => absurd hj (Nat.not_lt_zero _)⟩
      case round =>
        obtain ⟨k, hk, rfl, hall⟩ := hrel
        have H : Hid (∀ j, j < k → vb (byteAt s j) = true) := hall
        clear hall
        by_cases hlt : k < s.size
        · have hB : (s[k].toNat : Int) = byteAt s k := byteAt_eq hlt
          cases hp : vb (byteAt s k)
          · have HF : Hid (false = textB vb 100 s) := (textB_at hlt hp).symm
            go_wp2_with (go_at_call 95; refine (valueByteOk_any _ _).mono ?_; rintro e w' ⟨rfl, rfl⟩)
            go_ret
            exact ⟨ret_bl HF.out, rfl⟩
          · have hp' : vb (s[k].toNat : Int) = true := by rw [hB]; exact hp
            have HP : Hid (vb (byteAt s k) = true) := hp
            clear hp hB
            go_wp2_with (go_at_call 95; refine (valueByteOk_any _ _).mono ?_; rintro e w' ⟨rfl, rfl⟩)
            go_round
            case rel => exact ⟨k + 1, by omega, by go_num, fun j hj => by (by_cases e : j = k); (subst e; exact HP.out); exact H.out j (by omega)⟩
            case measure => simp [intOf]; omega
        · have e : k = s.size := by omega
          have HT : Hid (true = textB vb 100 s) := (textB_true h1 h2 (by rw [← e]; exact H.out)).symm
          go_wp2
          go_ret
          exact ⟨ret_bl HT.out, rfl⟩
    · have HF : Hid (false = textB vb 100 s) := (textB_not (by omega)).symm
      go_enter Try.func94, Try.ntmps94
      go_wp2
      go_ret
      exact ⟨ret_bl HF.out, rfl⟩
  · have HF : Hid (false = textB vb 100 s) := (textB_not (by omega)).symm
    go_enter Try.func94, Try.ntmps94
    go_wp2
    go_ret
    exact ⟨ret_bl HF.out, rfl⟩

theorem valueOk_any (s : ByteArray) (w : World) (hs : s.size ≤ maxLen) :
    Calls Try.prog 55 #[.string s] w fun e w' => e = .returned (.bool (valB s)) ∧ w' = w := by
  go_enter Try.func55, Try.ntmps55
  go_wp2_with (go_at_call 94; refine (textValue_any _ _ hs).mono ?_; rintro e w' ⟨rfl, rfl⟩)
  go_ret
  exact ⟨rfl, rfl⟩

set_option maxHeartbeats 1000000 in
theorem l2ValueOk_any (s : ByteArray) (w : World) (hs : s.size ≤ maxLen) :
    Calls Try.prog 49 #[.string s] w fun e w' => e = .returned (.bool (valB s)) ∧ w' = w := by
  unfold maxLen at hs
  go_enter Try.func49, Try.ntmps49
  go_wp2
  go_loop [3] (fun i => ∃ k : Nat, k ≤ s.size ∧ i = .int .i64 k ∧ ∀ j, j < k → vb (byteAt s j) = true) (fun i => s.size - (intOf i).toNat)
  case atStart => exact ⟨0, Nat.zero_le _, rfl, fun j hj => absurd hj (Nat.not_lt_zero _)⟩
  case round =>
    obtain ⟨k, hk, rfl, hall⟩ := hrel
    have H : Hid (∀ j, j < k → vb (byteAt s j) = true) := hall
    clear hall
    by_cases hlt : k < s.size
    · have hB : (s[k].toNat : Int) = byteAt s k := byteAt_eq hlt
      have HB : Hid ((s[k].toNat : Int) = byteAt s k) := hB
      clear hB
      by_cases t1 : 32 ≤ (s[k].toNat : Int) <;> by_cases t2 : (s[k].toNat : Int) ≤ 126 <;> (try omega)
      all_goals
        go_wp2
        first
          | (go_ret
             exact ⟨ret_bl (textB_at hlt (by rw [← HB.out]; unfold vb; simp at *; omega)).symm, rfl⟩)
          | (go_round
             case rel => exact ⟨k + 1, by omega, by go_num, fun j hj => by (by_cases e : j = k); (subst e; rw [← HB.out]; unfold vb; simp at *; omega); exact H.out j (by omega)⟩
             case measure => simp [intOf]; omega)
    · have e : k = s.size := by omega
      have HT : Hid (∀ i, i < s.size → vb (byteAt s i) = true) := by rw [← e]; exact H.out
      by_cases h1 : 1 ≤ s.size
      · by_cases h2 : s.size ≤ 100
        · go_wp2
          go_ret
          exact ⟨ret_bl (by rw [show valB s = true from textB_true h1 h2 HT.out] <;> first | rfl | (simp; done) | (simp; omega)), rfl⟩
        · go_wp2
          go_ret
          exact ⟨ret_bl (by rw [show valB s = false from textB_not (by omega)] <;> first | rfl | (simp; done) | (simp; omega)), rfl⟩
      · go_wp2
        go_ret
        exact ⟨ret_bl (by rw [show valB s = false from textB_not (by omega)] <;> first | rfl | (simp; done) | (simp; omega)), rfl⟩

end Go.Proofs.Ytkmccjjghpnejaa
