/-
  Whether a number is in a list: slices.Index, slices.Contains, l2HasId: contracts.
-/
import Derived.Test.YtpbpnkklnbmkeaaGrowC
namespace Go.Proofs.Ytpbpnkklnbmkeaa
open Go.RowKit Go.Maps

theorem mem_at {l : List Int} {x : Int} {k : Nat} (hk : k < l.length) (e : l[k] = x) : x ∈ l := e ▸ List.getElem_mem hk
theorem not_mem_at {l : List Int} {x : Int} (h : ∀ i (h : i < l.length), l[i] ≠ x) : x ∉ l := fun hm => by
  obtain ⟨i, hi, e⟩ := List.mem_iff_getElem.1 hm
  exact h i hi e

set_option maxHeartbeats 1000000 in
theorem l2HasId_any (a : Option Addr) (n c : Nat) (l : List Int) (bs : List Nat) (x : Int) (w : World) (hT : Ints w a l bs) (hn : l.length = n) (hm : n ≤ 1048576) :
    Calls Try.prog 105 #[.slice a n c, .int .i64 x] w fun e w' => e = .returned (.bool (decide (x ∈ l))) ∧ w' = w := by
  have Hn : Hid (l.length = n) := hn
  clear hn
  go_enter Try.func105, Try.ntmps105
  go_wp2
  go_loopw [5] (fun i wr => ∃ k : Nat, k ≤ n ∧ i = .int .i64 k ∧ Hid (∀ j (h : j < l.length), j < k → l[j] ≠ x) ∧ wr = w) (fun i _ => n - (intOf i).toNat)
  case atStart => exact ⟨0, Nat.zero_le _, rfl, (fun j _ hj => absurd hj (Nat.not_lt_zero _) : ∀ j (h : j < l.length), j < 0 → l[j] ≠ x), rfl⟩
  case round =>
    obtain ⟨k, hk, rfl, HS, rfl⟩ := hrel
    by_cases hlt : k < n
    · have hkl : k < l.length := by rw [Hn.out]; exact hlt
      obtain ⟨b, off, f, rfl, hb, hx⟩ := hT.out hkl
      obtain ⟨_, ix, cx⟩ := hx k hkl
      simp only [Nat.mul_one] at cx
      obtain ⟨y, Hy⟩ : ∃ y, Hid (y = l[k]) := ⟨_, (rfl : l[k] = _)⟩
      rw [← Hy.out] at cx
      clear hx hT
      have hlt' : (k : Int) < (n : Int) := by omega
      by_cases he : y = x
      · have HE : Hid (decide (x ∈ l) = true) := decide_eq_true (mem_at hkl (by rw [← he]; exact Hy.out.symm))
        have he' : (y == x) = true := by simp [he]
        clear he
        go_wp2
        go_ret
        exact ⟨by rw [HE.out]; rfl, rfl⟩
      · have he' : (y == x) = false := by simp [he]
        have HN : Hid (∀ j (h : j < l.length), j < k + 1 → l[j] ≠ x) := fun j h hj => by
          by_cases e : j = k
          · subst e; rw [← Hy.out]; exact he
          · exact HS.out j h (by omega)
        clear he
        go_wp2
        go_roundw
        case rel => exact ⟨k + 1, by omega, by go_num, HN, trivial⟩
        case measure => simp [intOf]; omega
    · have HE : Hid (decide (x ∈ l) = false) := decide_eq_false (not_mem_at fun i hi => HS.out i hi (by rw [Hn.out] at hi; omega))
      clear hT
      go_wp2
      go_ret
      exact ⟨by rw [HE.out]; rfl, rfl⟩
end Go.Proofs.Ytpbpnkklnbmkeaa
