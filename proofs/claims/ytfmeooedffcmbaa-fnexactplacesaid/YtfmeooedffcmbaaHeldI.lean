/-
  A list of numbers, its marks held: the contract.
-/
import Derived.Test.YtfmeooedffcmbaaMarkT
namespace Go.Proofs.Ytfmeooedffcmbaa
open Go.RowKit Go.Maps

set_option maxRecDepth 100000 in
set_option maxHeartbeats 1000000 in
theorem heldInt64S_any (a : Option Addr) (n c : Nat) (l : List Int) (bs : List Nat) (k : Nat) (w : World) (hT : Ints w a (mkInts k l) bs) (hn : l.length = n) (hm : n ≤ 1048576) (hk : k ≤ 1125899906842624) :
    Calls Try.prog 28 #[.slice a n c, .int .i64 k] w fun e w' => e = .returned (.int .i64 ((k + n : Nat) : Int)) ∧ w' = w := by
  by_cases h0 : n = 0
  · subst h0
    clear hT
    go_enter Try.func28, Try.ntmps28
    go_wp2
    go_loopw [1, 5] (fun t i wr => t = .int .i64 k ∧ i = .int .i64 0 ∧ wr = w) (fun _ _ _ => 0)
    case atStart => exact ⟨rfl, rfl, rfl⟩
    case round =>
      obtain ⟨rfl, rfl, rfl⟩ := hrel
      go_wp2
      go_ret
      exact ⟨by simp, rfl⟩
  · rcases hT with ⟨e, _⟩ | ⟨b, off, f, rfl, hb, rfl, hx⟩
    · have := congrArg List.length e
      rw [mkInts_len] at this
      exact absurd (hn.symm.trans this) h0
    · have HC : Hid (∀ i, i < n → w.cell? ⟨b, off + i, none⟩ = some (.int .i64 ((k + i : Nat) : Int))) := fun i hi => by
        have hi' : i < (mkInts k l).length := by rw [mkInts_len]; omega
        have := (hx i hi').2.2
        rw [Nat.mul_one] at this
        rw [this]
        simp [mkInts]
      clear hx
      go_enter Try.func28, Try.ntmps28
      go_wp2
      go_loopw [1, 5] (fun t i wr => ∃ j : Nat, j ≤ n ∧ i = .int .i64 j ∧ t = .int .i64 ((k + j : Nat) : Int) ∧ wr = w) (fun _ i _ => n - (intOf i).toNat)
      case atStart => exact ⟨0, Nat.zero_le _, rfl, by simp, rfl⟩
      case round =>
        obtain ⟨j, hj, rfl, rfl, rfl⟩ := hrel
        by_cases hlt : j < n
        · have cx := HC.out j hlt
          have hlt' : (j : Int) < (n : Int) := by omega
          go_wp2
          go_roundw
          case rel => exact ⟨j + 1, by omega, by go_num, by go_num, trivial⟩
          case measure => simp [intOf]; omega
        · have e : n = j := by omega
          subst e
          go_wp2
          go_ret
          exact ⟨rfl, rfl⟩
end Go.Proofs.Ytfmeooedffcmbaa
