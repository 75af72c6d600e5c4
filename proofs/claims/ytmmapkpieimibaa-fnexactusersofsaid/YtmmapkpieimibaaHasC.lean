/-
  Whether a number is in a list: slices.Index, slices.Contains, l2HasId: contracts.
-/
import Derived.Test.YtmmapkpieimibaaGrowC
namespace Go.Proofs.Ytmmapkpieimibaa
open Go.RowKit Go.Maps

theorem mem_at {l : List Int} {x : Int} {k : Nat} (hk : k < l.length) (e : l[k] = x) : x ∈ l := e ▸ List.getElem_mem hk
theorem not_mem_at {l : List Int} {x : Int} (h : ∀ i (h : i < l.length), l[i] ≠ x) : x ∉ l := fun hm => by
  obtain ⟨i, hi, e⟩ := List.mem_iff_getElem.1 hm
  exact h i hi e

set_option maxHeartbeats 1000000 in
theorem index_any (a : Option Addr) (n c : Nat) (l : List Int) (bs : List Nat) (x : Int) (w : World) (hT : Ints w a l bs) (hn : l.length = n) (hm : n ≤ 1048576) :
    Calls Try.prog 69 #[.slice a n c, .int .i64 x] w fun e w' => ∃ r : Int, e = .returned (.int .i64 r) ∧ In64 r ∧ (0 ≤ r ↔ x ∈ l) ∧ w' = w := by
  have Hn : Hid (l.length = n) := hn
  clear hn
  go_enter Try.func69, Try.ntmps69
  go_wp2
  go_loopw [5, 8] (fun _ i wr => ∃ k : Nat, k ≤ n ∧ i = .int .i64 k ∧ Hid (∀ j (h : j < l.length), j < k → l[j] ≠ x) ∧ wr = w) (fun _ i _ => n - (intOf i).toNat)
  case atStart => exact ⟨0, Nat.zero_le _, rfl, (fun j _ hj => absurd hj (Nat.not_lt_zero _) : ∀ j (h : j < l.length), j < 0 → l[j] ≠ x), rfl⟩
  case round =>
    obtain ⟨k, hk, rfl, HS, rfl⟩ := hrel
    by_cases hlt : k < n
    · have hkl : k < l.length := by rw [Hn.out]; exact hlt
      obtain ⟨b, off, f, rfl, hb, hx⟩ := hT.out hkl
      obtain ⟨_, ix, cx⟩ := hx k hkl
      simp only [Nat.mul_one] at cx
      obtain ⟨y, Hy⟩ : ∃ y, Hid (y = l[k]) := ⟨_, (rfl : l[k] = _)⟩
      rw [← Hy.out] at cx
      clear hx hT
      have hlt' : (k : Int) < (n : Int) := by omega
      by_cases he : x = y
      · have HE : Hid (x ∈ l) := mem_at hkl (by rw [he]; exact Hy.out.symm)
        have he' : (x == y) = true := by simp [he]
        clear he
        go_wp2
        go_ret
        exact ⟨k, rfl, ⟨by omega, by omega⟩, ⟨fun _ => HE.out, fun _ => by omega⟩, rfl⟩
      · have he' : (x == y) = false := by simp [he]
        have HN : Hid (∀ j (h : j < l.length), j < k + 1 → l[j] ≠ x) := fun j h hj => by
          by_cases e : j = k
          · subst e; rw [← Hy.out]; exact fun e => he e.symm
          · exact HS.out j h (by omega)
        clear he
        go_wp2
        go_roundw
        case rel => exact ⟨k + 1, by omega, by go_num, HN, trivial⟩
        case measure => simp [intOf]; omega
    · have HE : Hid (x ∉ l) := not_mem_at fun i hi => HS.out i hi (by rw [Hn.out] at hi; omega)
      clear hT
      go_wp2
      go_ret
      exact ⟨-1, rfl, ⟨by omega, by omega⟩, ⟨fun h => by omega, fun h => absurd h HE.out⟩, rfl⟩

theorem contains_any (a : Option Addr) (n c : Nat) (l : List Int) (bs : List Nat) (x : Int) (w : World) (hT : Ints w a l bs) (hn : l.length = n) (hm : n ≤ 1048576) :
    Calls Try.prog 48 #[.slice a n c, .int .i64 x] w fun e w' => e = .returned (.bool (decide (x ∈ l))) ∧ w' = w := by
  go_enter Try.func48, Try.ntmps48
  go_wp2_with fail
  refine (index_any a n c l bs x _ hT hn hm).mono ?_
  rintro e w1 ⟨r, rfl, ir, hr, rfl⟩
  have HR : Hid (0 ≤ r ↔ x ∈ l) := hr
  clear hr hT
  go_wp2
  go_ret
  exact ⟨congrArg (fun b => Ending.returned (.bool b)) (decide_eq_decide.2 HR.out), rfl⟩

set_option maxHeartbeats 1000000 in
theorem l2HasId_any (a : Option Addr) (n c : Nat) (l : List Int) (bs : List Nat) (x : Int) (w : World) (hT : Ints w a l bs) (hn : l.length = n) (hm : n ≤ 1048576) :
    Calls Try.prog 47 #[.slice a n c, .int .i64 x] w fun e w' => e = .returned (.bool (decide (x ∈ l))) ∧ w' = w := by
  have Hn : Hid (l.length = n) := hn
  clear hn
  go_enter Try.func47, Try.ntmps47
  go_wp2
  go_loopw [5] (fun i wr => ∃ k : Nat, k ≤ n ∧ i = .int .i64 k ∧ Hid (∀ j (h : j < l.length), j < k → l[j] ≠ x) ∧ wr = w) (fun i _ => n - (intOf i).toNat)
  case atStart => exact ⟨0, Nat.zero_le _, rfl, (fun j _ hj => absurd hj (Nat.not_lt_zero _) : ∀ j (h : j < l.length), j < 0 → l[j] ≠ x), rfl⟩
  case round =>
    obtain ⟨k, hk, rfl, HS, rfl⟩ := hrel
    by_cases hlt : k < n
    · have hkl : k < l.length := by rw [Hn.out]; exact hlt
      obtain ⟨b, off, f, rfl, hb, hx⟩ := hT.out hkl
      obtain ⟨_, ix, cx⟩ := hx k hkl
      simp only [Nat.mul_one] at cx
      obtain ⟨y, Hy⟩ : ∃ y, Hid (y = l[k]) := ⟨_, (rfl : l[k] = _)⟩
      rw [← Hy.out] at cx
      clear hx hT
      have hlt' : (k : Int) < (n : Int) := by omega
      by_cases he : y = x
      · have HE : Hid (decide (x ∈ l) = true) := decide_eq_true (mem_at hkl (by rw [← he]; exact Hy.out.symm))
        have he' : (y == x) = true := by simp [he]
        clear he
        go_wp2
        go_ret
        exact ⟨by rw [HE.out]; rfl, rfl⟩
      · have he' : (y == x) = false := by simp [he]
        have HN : Hid (∀ j (h : j < l.length), j < k + 1 → l[j] ≠ x) := fun j h hj => by
          by_cases e : j = k
          · subst e; rw [← Hy.out]; exact he
          · exact HS.out j h (by omega)
        clear he
        go_wp2
        go_roundw
        case rel => exact ⟨k + 1, by omega, by go_num, HN, trivial⟩
        case measure => simp [intOf]; omega
    · have HE : Hid (decide (x ∈ l) = false) := decide_eq_false (not_mem_at fun i hi => HS.out i hi (by rw [Hn.out] at hi; omega))
      clear hT
      go_wp2
      go_ret
      exact ⟨by rw [HE.out]; rfl, rfl⟩
end Go.Proofs.Ytmmapkpieimibaa
