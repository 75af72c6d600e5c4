/-
  What a text says as a number of up to ten digits, in the program (strconv.ParseInt by the shelf) and in its model.
-/
import Derived.Test.YtfdeccmkdhaodaaDoorTagS
import Derived.Lib.ParseIntB
namespace Go.Proofs.YtfdeccmkdhaodaaDoor
open Go.RowKit

/-- A digit. -/
def db (n : Int) : Bool := decide (48 ≤ n ∧ n ≤ 57)
/-- The digits' number, behind what was. -/
def nmA : Nat → List UInt8 → Nat
  | acc, [] => acc
  | acc, c :: r => nmA (acc * 10 + (c.toNat - 48)) r
theorem nmA_snoc : ∀ (l : List UInt8) (acc : Nat) (c : UInt8), nmA acc (l ++ [c]) = nmA acc l * 10 + (c.toNat - 48)
  | [], _, _ => rfl
  | d :: r, acc, c => nmA_snoc r (acc * 10 + (d.toNat - 48)) c
theorem nmA_le : ∀ (l : List UInt8) (acc : Nat), acc ≤ nmA acc l
  | [], _ => Nat.le_refl _
  | c :: r, acc => Nat.le_trans (by omega) (nmA_le r (acc * 10 + (c.toNat - 48)))
/-- The number that the first k bytes say. -/
def nmN (s : ByteArray) (k : Nat) : Nat := nmA 0 (s.data.toList.take k)
theorem nmN_zero (s : ByteArray) : nmN s 0 = 0 := rfl
theorem nmN_succ {s : ByteArray} {k : Nat} (h : k < s.size) : nmN s (k + 1) = nmN s k * 10 + ((byteAt s k).toNat - 48) := by
  have h' : k < s.data.toList.length := by simpa using h
  unfold nmN byteAt
  rw [List.take_add_one, List.getElem?_eq_getElem h', List.getD_eq_getElem?_getD, List.getElem?_eq_getElem h']
  simp only [Option.toList_some, nmA_snoc, Option.getD_some, Int.toNat_natCast]
theorem nmN_lt {s : ByteArray} : ∀ (k : Nat), k ≤ s.size → (∀ j, j < k → db (byteAt s j) = true) → nmN s k < 10 ^ k
  | 0, _, _ => by simp [nmN_zero]
  | k + 1, hk, hd => by
    rw [nmN_succ (by omega)]
    have h1 := nmN_lt k (by omega) (fun j hj => hd j (by omega))
    have h2 := hd k (by omega)
    unfold db at h2
    simp only [decide_eq_true_eq] at h2
    rw [Nat.pow_succ]
    omega
/-- The whole text's number. -/
def nmV (s : ByteArray) : Int := (nmN s s.size : Int)
theorem nmV_lt {s : ByteArray} (h : textB db 10 s = true) : nmV s < 10000000000 := by
  simp only [textB, decide_eq_true_eq] at h
  have h1 := nmN_lt s.size (Nat.le_refl _) h.2.2
  have h2 : 10 ^ s.size ≤ 10 ^ 10 := Nat.pow_le_pow_right (by decide) h.2.1
  unfold nmV
  omega
theorem nmV_pos (s : ByteArray) : 0 ≤ nmV s := by unfold nmV; omega

theorem parseM (M : Nat) (hM : 10000000000 ≤ M) (l : List UInt8) : ∀ (acc : Nat), (∀ c ∈ l, 48 ≤ c.toNat ∧ c.toNat ≤ 57) → nmA acc l < 10000000000 → Lib.parseUintM M acc l = .ok (nmA acc l) := by
  induction l with
  | nil => intro acc _ _; rfl
  | cons c r ih =>
    intro acc hd hb
    have h1 := hd c (by simp)
    have hb' : nmA (acc * 10 + (c.toNat - 48)) r < 10000000000 := hb
    have h2 := nmA_le r (acc * 10 + (c.toNat - 48))
    have h3 := ih (acc * 10 + (c.toNat - 48)) (fun d hd' => hd d (by simp [hd'])) hb'
    show Lib.parseUintM M acc (c :: r) = .ok (nmA (acc * 10 + (c.toNat - 48)) r)
    rw [Lib.parseUintM, if_pos h1, if_neg (by omega), if_neg (by omega)]
    exact h3
theorem parse_ok {s : ByteArray} (h : textB db 10 s = true) : Lib.parseIntB 64 s.data.toList = .ok (nmV s) := by
  have hv := nmV_lt h
  simp only [textB, decide_eq_true_eq] at h
  obtain ⟨h1, _, h3⟩ := h
  have hall : ∀ c ∈ s.data.toList, 48 ≤ c.toNat ∧ c.toNat ≤ 57 := by
    intro c hc
    obtain ⟨i, hi, rfl⟩ := List.getElem_of_mem hc
    have h4 := h3 i (by simpa using hi)
    unfold db byteAt at h4
    rw [List.getD_eq_getElem?_getD, List.getElem?_eq_getElem hi] at h4
    simp only [Option.getD_some, decide_eq_true_eq] at h4
    omega
  have hw : nmN s s.size = nmA 0 s.data.toList := by
    unfold nmN
    rw [List.take_of_length_le (by simp)]
  have hv' : nmA 0 s.data.toList < 10000000000 := by unfold nmV at hv; omega
  have hV : nmV s = (nmA 0 s.data.toList : Int) := by unfold nmV; rw [hw]
  have hlen : 1 ≤ s.data.toList.length := by simpa using h1
  rw [hV]
  revert hall hv' hlen
  generalize s.data.toList = l
  intro hall hv' hlen
  cases l with
  | nil => simp at hlen
  | cons c r =>
    have hc := hall c (by simp)
    have hp := parseM (2 ^ 64 - 1) (by decide) (c :: r) 0 hall hv'
    unfold Lib.parseIntB
    simp only
    rw [if_neg (by omega)]
    unfold Lib.parseUintB
    rw [if_neg (by simp), hp]
    simp only
    rw [if_neg (by intro hh; have := hh.2; have h63 : (2 : Nat) ^ (64 - 1) = 9223372036854775808 := rfl; omega), if_neg (by intro hh; omega), if_neg (by omega)]

theorem digitOk_any (n : Int) (w : World) :
    Calls Tryd.prog 20 #[.int .u8 n] w fun e w' => e = .returned (.bool (db n)) ∧ w' = w := by
  by_cases h1 : 48 ≤ n <;> by_cases h2 : n ≤ 57 <;> (
    go_enter Tryd.func20, Tryd.ntmps20
    go_wp2
    go_ret
    exact ⟨ret_bl (by unfold db; simp <;> omega), rfl⟩)

set_option maxHeartbeats 1000000 in
theorem textDigit_any (s : ByteArray) (w : World) (hs : s.size ≤ maxLen) :
    Calls Tryd.prog 19 #[.string s, .int .i64 10, .func (.func 20) #[] #[]] w fun e w' => e = .returned (.bool (textB db 10 s)) ∧ w' = w := by
  unfold maxLen at hs
  by_cases h1 : 1 ≤ s.size
  · by_cases h2 : s.size ≤ 10
    · go_enter Tryd.func19, Tryd.ntmps19
      go_wp2
      go_loop [7, 19] (fun _ i => ∃ k : Nat, k ≤ s.size ∧ i = .int .i64 k ∧ ∀ j, j < k → db (byteAt s j) = true) (fun _ i => s.size - (intOf i).toNat)
      case atStart => exact ⟨0, Nat.zero_le _, rfl, fun j hj => absurd hj (Nat.not_lt_zero _)⟩
      case round =>
        obtain ⟨k, hk, rfl, hall⟩ := hrel
        have H : Hid (∀ j, j < k → db (byteAt s j) = true) := hall
        clear hall
        by_cases hlt : k < s.size
        · have hB : (s[k].toNat : Int) = byteAt s k := byteAt_eq hlt
          cases hp : db (byteAt s k)
          · have HF : Hid (false = textB db 10 s) := (textB_at hlt hp).symm
            go_wp2_with (go_at_call 20; refine (digitOk_any _ _).mono ?_; rintro e w' ⟨rfl, rfl⟩)
            go_ret
            exact ⟨ret_bl HF.out, rfl⟩
          · have hp' : db (s[k].toNat : Int) = true := by rw [hB]; exact hp
            have HP : Hid (db (byteAt s k) = true) := hp
            clear hp hB
            go_wp2_with (go_at_call 20; refine (digitOk_any _ _).mono ?_; rintro e w' ⟨rfl, rfl⟩)
            go_round
            case rel => exact ⟨k + 1, by omega, by go_num, fun j hj => by (by_cases e : j = k); (subst e; exact HP.out); exact H.out j (by omega)⟩
            case measure => simp [intOf]; omega
        · have e : k = s.size := by omega
          have HT : Hid (true = textB db 10 s) := (textB_true h1 h2 (by rw [← e]; exact H.out)).symm
          go_wp2
          go_ret
          exact ⟨ret_bl HT.out, rfl⟩
    · have HF : Hid (false = textB db 10 s) := (textB_not (by omega)).symm
      go_enter Tryd.func19, Tryd.ntmps19
      go_wp2
      go_ret
      exact ⟨ret_bl HF.out, rfl⟩
  · have HF : Hid (false = textB db 10 s) := (textB_not (by omega)).symm
    go_enter Tryd.func19, Tryd.ntmps19
    go_wp2
    go_ret
    exact ⟨ret_bl HF.out, rfl⟩

end Go.Proofs.YtfdeccmkdhaodaaDoor
