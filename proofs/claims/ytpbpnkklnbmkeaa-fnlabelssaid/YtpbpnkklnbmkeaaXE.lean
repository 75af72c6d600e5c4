/-
  The law's `has`: whether a number is in a row.
  The law's `sameInts`: lists that are the same are found so (out of NesC).
-/
import Derived.Test.YtpbpnkklnbmkeaaLblW
import Derived.Deep.QuietTactic
namespace Go.Proofs.Ytpbpnkklnbmkeaa
open Go.RowKit

theorem int_k {w : World} {b off : Nat} {l : List Int} {bs : List Nat} (h : Ints w (some ⟨b, off, none⟩) l bs) {k : Nat} (hk : k < l.length) : b < w.heap.size ∧ w.cell? ⟨b, off + k, none⟩ = some (.int .i64 l[k]) := by
  obtain ⟨b', off', f, e, hb, hx⟩ := h.out hk
  injection e with e
  injection e with e1 e2
  subst e1 e2
  have := (hx k hk).2.2
  rw [Nat.mul_one] at this
  exact ⟨hb, this⟩
set_option maxRecDepth 100000 in
set_option maxHeartbeats 2000000 in
theorem lawHas_any (a : Option Addr) (n c : Nat) (l : List Int) (bs : List Nat) (x : Int) (w : World) (hP : Ints w a l bs) (hn : l.length = n) (hm : n ≤ 1048576) :
    Calls Try.prog 10 #[.slice a n c, .int .i64 x] w fun e w' => e = .returned (.bool (decide (x ∈ l))) ∧ w' = w := by
  have Hn : Hid (l.length = n) := hn
  obtain ⟨R, HR⟩ : ∃ R, Hid (decide (x ∈ l) = R) := ⟨_, (rfl : decide (x ∈ l) = _)⟩
  rw [HR.out]
  clear hn
  go_enter Try.func10, Try.ntmps10
  go_wp2
  go_loopw [5] (fun ix wr => ∃ i : Nat, i ≤ n ∧ ix = .int .i64 i ∧ Hid (∀ j (h : j < l.length), j < i → ¬ l[j] = x) ∧ wr = w) (fun ix _ => n - (intOf ix).toNat)
  case atStart => exact ⟨0, Nat.zero_le _, rfl, fun j h hj => absurd hj (Nat.not_lt_zero _), rfl⟩
  case round =>
    obtain ⟨i, hi, rfl, HA, hw⟩ := hrel
    subst hw
    by_cases hlt : i < n
    · have hil : i < l.length := by rw [Hn.out]; exact hlt
      have hlt' : (i : Int) < (n : Int) := by omega
      obtain ⟨rb, off, f, rfl, hb, _⟩ := hP.out hil
      have k0 := (int_k hP hil).2
      obtain ⟨y, Hy⟩ : ∃ q, Hid (l[i] = q) := ⟨_, (rfl : l[i] = _)⟩
      rw [Hy.out] at k0
      by_cases hxy : y = x
      · have hxb : (y == x) = true := by simp [hxy]
        have HF : Hid (R = true) := (by rw [← HR.out, decide_eq_true_eq]; rw [← hxy, ← Hy.out]; exact List.getElem_mem hil : R = true)
        clear hxy
        go_wp2
        go_ret
        exact ⟨by rw [HF.out]; rfl, rfl⟩
      · have hxb : (y == x) = false := by simp [hxy]
        have HA' : Hid (∀ j (h : j < l.length), j < i + 1 → ¬ l[j] = x) := fun j h hj => by
          by_cases e : j = i
          · subst e; rw [Hy.out]; exact hxy
          · exact HA.out j h (by omega)
        clear hxy
        go_wp2
        go_roundw
        case rel => exact ⟨i + 1, by omega, by go_num, HA'.out, (by first | rfl | trivial)⟩
        case measure => simp [intOf]; omega
    · have e : i = n := by omega
      subst e
      have HF : Hid (R = false) := (by
        rw [← HR.out, decide_eq_false_iff_not]
        intro hx
        obtain ⟨j, hj, e⟩ := List.mem_iff_getElem.1 hx
        exact HA.out j hj (by rw [← Hn.out]; exact hj) e : R = false)
      go_wp2
      go_ret
      exact ⟨by rw [HF.out]; rfl, rfl⟩
end Go.Proofs.Ytpbpnkklnbmkeaa

namespace Go.Proofs.Ytpbpnkklnbmkeaa
open Go.RowKit

theorem int_n {w : World} {b off : Nat} {l : List Int} {bs : List Nat} (h : Ints w (some ⟨b, off, none⟩) l bs) {k : Nat} (hk : k < l.length) : b < w.heap.size ∧ w.cell? ⟨b, off + k, none⟩ = some (.int .i64 l[k]) := by
  obtain ⟨b', off', f, e, hb, hx⟩ := h.out hk
  injection e with e
  injection e with e1 e2
  subst e1 e2
  have := (hx k hk).2.2
  rw [Nat.mul_one] at this
  exact ⟨hb, this⟩
set_option maxRecDepth 100000 in
set_option maxHeartbeats 2000000 in
theorem lawSameInts_any (a a' : Option Addr) (n n' c c' : Nat) (l l' : List Int) (bs bs' : List Nat) (w : World) (hP : Ints w a l bs) (hP' : Ints w a' l' bs') (hn : l.length = n) (hn' : l'.length = n') (hm : n ≤ 1048576) :
    Calls Try.prog 17 #[.slice a n c, .slice a' n' c'] w fun e w' => ∃ b : Bool, e = .returned (.bool b) ∧ (l = l' → b = true) ∧ Bel w w' := by
  have Hn : Hid (l.length = n) := hn
  have Hn' : Hid (l'.length = n') := hn'
  clear hn hn'
  by_cases he : (n : Int) = (n' : Int)
  rotate_left
  · have hE : ((n : Int) != (n' : Int)) = true := by simp only [bne_iff_ne, ne_eq]; exact he
    have HF : Hid (¬ l = l') := fun e => he (by rw [← Hn.out, ← Hn'.out, e])
    go_enter Try.func17, Try.ntmps17
    go_wp2
    go_ret
    exact ⟨false, rfl, fun e => absurd e HF.out, Bel.refl _⟩
  obtain rfl : n = n' := by omega
  have hE : ((n : Int) != (n : Int)) = false := by simp
  clear he
  go_enter Try.func17, Try.ntmps17
  go_wp2
  go_loopw [5] (fun ix wr => ∃ i : Nat, i ≤ n ∧ ix = .int .i64 i ∧ Bel w wr) (fun ix _ => n - (intOf ix).toNat)
  case atStart => exact ⟨0, Nat.zero_le _, rfl, Bel.refl _⟩
  case round =>
    obtain ⟨i, hi, rfl, hBr⟩ := hrel
    by_cases hlt : i < n
    · have hil : i < l.length := by rw [Hn.out]; exact hlt
      have hil' : i < l'.length := by rw [Hn'.out]; exact hlt
      have hlt' : (i : Int) < (n : Int) := by omega
      obtain ⟨rb, off, f, rfl, hb, _⟩ := hP.out hil
      obtain ⟨rb', off', f', rfl, hb', _⟩ := hP'.out hil'
      have k0 := (int_n (hP.bel intE hBr) hil).2
      have k1 := (int_n (hP'.bel intE hBr) hil').2
      obtain ⟨x, Hx⟩ : ∃ q, Hid (l[i] = q) := ⟨_, (rfl : l[i] = _)⟩
      obtain ⟨y, Hy⟩ : ∃ q, Hid (l'[i] = q) := ⟨_, (rfl : l'[i] = _)⟩
      rw [Hx.out] at k0
      rw [Hy.out] at k1
      by_cases hxy : x = y
      · have hxb : (x != y) = false := by simp [hxy]
        clear hxy
        go_wp2
        go_quiet (fail)
        go_wp2
        go_roundw
        case rel => exact ⟨i + 1, by omega, by go_num, bel_drewN hBr _⟩
        case measure => simp [intOf]; omega
      · have hxb : (x != y) = true := by simp [hxy]
        have HF : Hid (¬ l = l') := fun e => hxy (by subst e; rw [← Hx.out, ← Hy.out])
        clear hxy
        go_wp2
        go_quiet (fail)
        go_wp2
        go_ret
        exact ⟨false, rfl, fun e => absurd e HF.out, bel_drewN hBr _⟩
    · have e : i = n := by omega
      subst e
      go_wp2
      go_ret
      exact ⟨true, rfl, fun _ => rfl, hBr⟩
end Go.Proofs.Ytpbpnkklnbmkeaa
