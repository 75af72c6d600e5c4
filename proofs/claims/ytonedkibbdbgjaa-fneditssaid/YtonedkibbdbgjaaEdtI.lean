/-
  Contracts of editsUpTo and Edits in the program: for every two texts.
-/
import Derived.Test.YtonedkibbdbgjaaEdtM
import Derived.Test.YtonedkibbdbgjaaTagC
namespace Go.Proofs.Ytonedkibbdbgjaa
open Go.RowKit

def strLen : Value → Nat
  | .string s => s.size
  | _ => 0
/-- The text without its first byte. -/
def tlS (s : ByteArray) : ByteArray := s.extract 1 s.size
theorem bts_tail {s : ByteArray} (h : 0 < s.size) : bts s = s[0] :: bts (tlS s) := by
  have hl : 0 < s.data.toList.length := by simpa using h
  have e : bts (tlS s) = s.data.toList.drop 1 := by
    have hz : s.data.toList.tail.length = s.size - 1 := by simp
    unfold bts tlS
    simp only [ByteArray.data_extract, Array.toList_extract, List.extract_eq_take_drop, List.drop_one]
    rw [← hz, List.take_length]
  rw [e]
  have h1 : s[0] = s.data.toList[0] := rfl
  rw [h1]
  exact (List.drop_eq_getElem_cons hl : s.data.toList.drop 0 = _)
theorem ret_nm {a b : Int} (h : a = b) : Ending.returned (.int .i64 a) = .returned (.int .i64 b) := by rw [h]
theorem tl_size (s : ByteArray) : (tlS s).size = s.size - 1 := by simp [tlS]

theorem min_two (m a b : Int) : min (min m a) (min m b) = min m (min a b) := by omega
theorem min_one (m a : Int) : 1 + min m a = min (m + 1) (1 + a) := by omega
theorem cast_min (a b : Nat) : ((min a b : Nat) : Int) = min (a : Int) (b : Int) := by omega
theorem quiet_more {P : Program} {f : FuncId} {args : Array Value} {w : World} {a b c : Nat} {v : Value}
    (h : Calls P f args (w.drewN a) fun e w' => e = .returned v ∧ ∃ m, w' = (w.drewN a).drewN m) (hc : a = b + c) :
    Calls P f args (w.drewN a) fun e w'' => e = .returned v ∧ ∃ m, w'' = w.drewN (b + m) :=
  h.mono fun _ _ ⟨he, m, hm⟩ => ⟨he, c + m, by rw [hm, World.drewN_drewN, hc, Nat.add_assoc]⟩

set_option maxHeartbeats 4000000 in
set_option maxRecDepth 100000 in
theorem editsUpTo_any : ∀ (m : Nat) (M : Int), M = m → m ≤ 3 → ∀ (A B : ByteArray) (w : World), A.size ≤ 40 → B.size ≤ 40 →
    Calls Try.prog 15 #[.string A, .string B, .int .i64 M] w fun e w' => e = .returned (.int .i64 (min M (lev (bts A) (bts B)))) ∧ ∃ n, w' = w.drewN n := by
  intro m
  induction m with
  | zero =>
    intro M hM _ A B w _ _
    obtain rfl : M = 0 := hM
    go_enter Try.func15, Try.ntmps15
    go_wp2_with fail
    go_ret
    exact ⟨ret_nm (by omega), 0, rfl⟩
  | succ m ih =>
    intro M hM hm A B w hA hB
    have IH : Hid _ := ih
    have hM0 : (M == 0) = false := by simp only [beq_eq_false_iff_ne]; omega
    have HM : Hid (M = ((m + 1 : Nat) : Int)) := hM
    clear ih hM
    go_enter Try.func15, Try.ntmps15
    go_wp2_with fail
    go_loopw [0, 1] (fun x y wr => ∃ A' B', x = .string A' ∧ y = .string B' ∧ lev (bts A') (bts B') = lev (bts A) (bts B) ∧ A'.size ≤ 40 ∧ B'.size ≤ 40 ∧ ∃ n, wr = w.drewN n) (fun x _ _ => strLen x)
    case atStart => exact ⟨A, B, rfl, rfl, rfl, hA, hB, 0, rfl⟩
    case round =>
      obtain ⟨A', B', rfl, rfl, hL, hA', hB', n, rfl⟩ := hrel
      by_cases hza : A'.size = 0
      · have hz : (A'.size : Int) = 0 := by omega
        go_wp2_with fail
        go_quiet (fail)
        go_wp2_with fail
        go_ret
        have ea : bts A' = [] := List.length_eq_zero_iff.1 (by rw [bts_len]; exact hza)
        exact ⟨ret_num (by rw [← hL, ea, lev_nil, bts_len]; omega), _, rfl⟩
      · have hza' : (0 : Int) < (A'.size : Int) := by omega
        have hpa : 0 < A'.size := by omega
        by_cases hzb : B'.size = 0
        · have hz : (B'.size : Int) = 0 := by omega
          go_wp2_with fail
          go_quiet (fail)
          go_wp2_with fail
          go_ret
          have eb : bts B' = [] := List.length_eq_zero_iff.1 (by rw [bts_len]; exact hzb)
          exact ⟨ret_num (by rw [← hL, eb, lev_nil', bts_len]; omega), _, rfl⟩
        · have hzb' : (0 : Int) < (B'.size : Int) := by omega
          have hpb : 0 < B'.size := by omega
          by_cases hh : A'[0] = B'[0]
          · go_wp2_with fail
            go_quiet (fail)
            go_wp2_with fail
            go_quiet (fail)
            go_wp2_with fail
            have hl2 : lev (bts (tlS A')) (bts (tlS B')) = lev (bts A) (bts B) := by rw [← hL, bts_tail hpa, bts_tail hpb, hh, lev_same]
            have ha2 := tl_size A'
            have hb2 := tl_size B'
            go_roundw
            case rel => exact ⟨tlS A', tlS B', rfl, rfl, hl2, by rw [ha2]; omega, by rw [hb2]; omega, _, by simp only [World.drewN_drewN]; rfl⟩
            case measure =>
              show (tlS A').size < A'.size
              rw [ha2]; exact Nat.sub_lt hpa Nat.one_pos
          · have hh0 : Hid (A'[0] ≠ B'[0]) := hh
            have hh' : ((A'[0].toNat : Int) == (B'[0].toNat : Int)) = false := by
              rw [beq_eq_false_iff_ne]
              intro h
              exact hh (UInt8.toNat_inj.1 (by omega))
            have hae : ((A'.size : Int) == 0) = false := by rw [beq_eq_false_iff_ne]; omega
            have hbe : ((B'.size : Int) == 0) = false := by rw [beq_eq_false_iff_ne]; omega
            have ha2 : (A'.extract 1 A'.size).size ≤ 40 := by have := tl_size A'; unfold tlS at this; rw [this]; omega
            have hb2 : (B'.extract 1 B'.size).size ≤ 40 := by have := tl_size B'; unfold tlS at this; rw [this]; omega
            have hm2 : m ≤ 3 := by omega
            have HM1 : M - 1 = (m : Int) := by have := HM.out; omega
            clear hh
            go_wp2_with fail
            go_quiet (fail)
            go_wp2_with fail
            have h1a : (1 : Int) ≤ (A'.size : Int) := by omega
            have hwm : IntKind.i64.wrap (m : Int) = (m : Int) := by rw [IntKind.wrap_i64]; omega
            have h1b : (1 : Int) ≤ (B'.size : Int) := by omega
            have IHq : Hid (∀ (A B : ByteArray) (k c : Nat), A.size ≤ 40 → B.size ≤ 40 → Calls Try.prog 15 #[.string A, .string B, .int .i64 (IntKind.i64.wrap (m : Int))] (w.drewN (k + c)) fun e w'' => e = .returned (.int .i64 (min (m : Int) (lev (bts A) (bts B)))) ∧ ∃ m, w'' = w.drewN (k + m)) := by
              intro A B k c h1 h2
              rw [hwm]
              exact quiet_more (IH.out _ rfl hm2 _ _ _ h1 h2) rfl
            obtain ⟨c1, h1⟩ : ∃ c : Int, c = min (m : Int) (lev (bts (A'.extract 1 A'.size)) (bts B')) := ⟨_, rfl⟩
            obtain ⟨c2, h2⟩ : ∃ c : Int, c = min (m : Int) (lev (bts A') (bts (B'.extract 1 B'.size))) := ⟨_, rfl⟩
            obtain ⟨c3, h3⟩ : ∃ c : Int, c = min (m : Int) (lev (bts (A'.extract 1 A'.size)) (bts (B'.extract 1 B'.size))) := ⟨_, rfl⟩
            have b1 : 0 ≤ c1 ∧ c1 ≤ 3 := by omega
            have b2 : 0 ≤ c2 ∧ c2 ≤ 3 := by omega
            have b3 : 0 ≤ c3 ∧ c3 ≤ 3 := by omega
            have I1 := fun k c => IHq.out _ _ k c ha2 hB'
            have I2 := fun k c => IHq.out _ _ k c hA' hb2
            have I3 := fun k c => IHq.out _ _ k c ha2 hb2
            rw [← h1] at I1
            rw [← h2] at I2
            rw [← h3] at I3
            have HF : Hid (1 + min (min c1 c2) c3 = min M (lev (bts A) (bts B))) := by
              have e := lev_other hh0.out (bts (tlS A')) (bts (tlS B'))
              rw [← bts_tail hpa, ← bts_tail hpb] at e
              unfold tlS at e
              have hMM : M = m + 1 := by have := HM.out; omega
              rw [← hL, e, hMM, h1, h2, h3, min_two, min_two, min_one]
              congr 1
              rw [Int.natCast_add, cast_min, cast_min]; rfl
            have J1 : Hid _ := I1
            have J2 : Hid _ := I2
            have J3 : Hid _ := I3
            clear IH IHq hwm h1 h2 h3 I1 I2 I3 ha2 hb2
            go_quiet (first | with_reducible exact J1.out _ _ | with_reducible exact J2.out _ _ | with_reducible exact J3.out _ _)
            go_wp2_with fail
            all_goals go_ret
            all_goals refine ⟨ret_num ?_, _, rfl⟩
            all_goals rw [← HF.out]
            all_goals omega

theorem edits_any (A B : ByteArray) (w : World) (hA : A.size ≤ maxLen) (hB : B.size ≤ maxLen) :
    Calls Try.prog 7 #[.string A, .string B] w fun e w' => e = .returned (.int .i64 (edQ A B)) ∧ ∃ n, w' = w.drewN n := by
  unfold maxLen at hA hB
  by_cases h1 : 40 < A.size
  · have hv : edQ A B = 3 := if_pos (Or.inl h1)
    rw [hv]
    have h1' : (40 : Int) < A.size := by omega
    go_enter Try.func7, Try.ntmps7
    go_wp2_with fail
    go_ret
    exact ⟨rfl, 0, rfl⟩
  · have h1' : ¬ (40 : Int) < A.size := by omega
    by_cases h2 : 40 < B.size
    · have hv : edQ A B = 3 := if_pos (Or.inr h2)
      rw [hv]
      have h2' : (40 : Int) < B.size := by omega
      go_enter Try.func7, Try.ntmps7
      go_wp2_with fail
      go_ret
      exact ⟨rfl, 0, rfl⟩
    · have h2' : ¬ (40 : Int) < B.size := by omega
      have hv : edQ A B = min 3 (lev (bts A) (bts B) : Int) := by unfold edQ; rw [if_neg (by omega)]; omega
      rw [hv]
      go_enter Try.func7, Try.ntmps7
      go_wp2_with fail
      refine (editsUpTo_any 3 3 rfl (by omega) A B _ (by omega) (by omega)).mono ?_
      rintro e w' ⟨rfl, n, rfl⟩
      go_wp2_with fail
      go_ret
      exact ⟨rfl, n, rfl⟩
end Go.Proofs.Ytonedkibbdbgjaa
