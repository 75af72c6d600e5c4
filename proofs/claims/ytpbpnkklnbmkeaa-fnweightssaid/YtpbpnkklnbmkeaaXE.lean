/-
  The law's `has`: whether a number is in a row.
  What chosen labels weigh: contracts, of the program and of its model.
-/
import Derived.Test.YtpbpnkklnbmkeaaLblW
namespace Go.Proofs.Ytpbpnkklnbmkeaa
open Go.RowKit

theorem int_k {w : World} {b off : Nat} {l : List Int} {bs : List Nat} (h : Ints w (some ⟨b, off, none⟩) l bs) {k : Nat} (hk : k < l.length) : b < w.heap.size ∧ w.cell? ⟨b, off + k, none⟩ = some (.int .i64 l[k]) := by
  obtain ⟨b', off', f, e, hb, hx⟩ := h.out hk
  injection e with e
  injection e with e1 e2
  subst e1 e2
  have := (hx k hk).2.2
  rw [Nat.mul_one] at this
  exact ⟨hb, this⟩
set_option maxRecDepth 100000 in
set_option maxHeartbeats 2000000 in
theorem lawHas_any (a : Option Addr) (n c : Nat) (l : List Int) (bs : List Nat) (x : Int) (w : World) (hP : Ints w a l bs) (hn : l.length = n) (hm : n ≤ 1048576) :
    Calls Try.prog 10 #[.slice a n c, .int .i64 x] w fun e w' => e = .returned (.bool (decide (x ∈ l))) ∧ w' = w := by
  have Hn : Hid (l.length = n) := hn
  obtain ⟨R, HR⟩ : ∃ R, Hid (decide (x ∈ l) = R) := ⟨_, (rfl : decide (x ∈ l) = _)⟩
  rw [HR.out]
  clear hn
  go_enter Try.func10, Try.ntmps10
  go_wp2
  go_loopw [5] (fun ix wr => ∃ i : Nat, i ≤ n ∧ ix = .int .i64 i ∧ Hid (∀ j (h : j < l.length), j < i → ¬ l[j] = x) ∧ wr = w) (fun ix _ => n - (intOf ix).toNat)
  case atStart => exact ⟨0, Nat.zero_le _, rfl, fun j h hj => absurd hj (Nat.not_lt_zero _), rfl⟩
  case round =>
    obtain ⟨i, hi, rfl, HA, hw⟩ := hrel
    subst hw
    by_cases hlt : i < n
    · have hil : i < l.length := by rw [Hn.out]; exact hlt
      have hlt' : (i : Int) < (n : Int) := by omega
      obtain ⟨rb, off, f, rfl, hb, _⟩ := hP.out hil
      have k0 := (int_k hP hil).2
      obtain ⟨y, Hy⟩ : ∃ q, Hid (l[i] = q) := ⟨_, (rfl : l[i] = _)⟩
      rw [Hy.out] at k0
      by_cases hxy : y = x
      · have hxb : (y == x) = true := by simp [hxy]
        have HF : Hid (R = true) := (by rw [← HR.out, decide_eq_true_eq]; rw [← hxy, ← Hy.out]; exact List.getElem_mem hil : R = true)
        clear hxy
        go_wp2
        go_ret
        exact ⟨by rw [HF.out]; rfl, rfl⟩
      · have hxb : (y == x) = false := by simp [hxy]
        have HA' : Hid (∀ j (h : j < l.length), j < i + 1 → ¬ l[j] = x) := fun j h hj => by
          by_cases e : j = i
          · subst e; rw [Hy.out]; exact hxy
          · exact HA.out j h (by omega)
        clear hxy
        go_wp2
        go_roundw
        case rel => exact ⟨i + 1, by omega, by go_num, HA'.out, (by first | rfl | trivial)⟩
        case measure => simp [intOf]; omega
    · have e : i = n := by omega
      subst e
      have HF : Hid (R = false) := (by
        rw [← HR.out, decide_eq_false_iff_not]
        intro hx
        obtain ⟨j, hj, e⟩ := List.mem_iff_getElem.1 hx
        exact HA.out j hj (by rw [← Hn.out]; exact hj) e : R = false)
      go_wp2
      go_ret
      exact ⟨by rw [HF.out]; rfl, rfl⟩
end Go.Proofs.Ytpbpnkklnbmkeaa

namespace Go.Proofs.Ytpbpnkklnbmkeaa
open Go.RowKit Go.Maps

set_option maxRecDepth 100000 in
set_option maxHeartbeats 4000000 in
theorem weight_any (a : Option Addr) (n c : Nat) (l : List LblD) (bs : List Nat) (ai : Option Addr) (ni ci : Nat) (ids : List Int) (bi : List Nat) (w : World) (hT : LblL w a l bs) (hn : l.length = n) (hm : n ≤ 1048576) (hI : Ints w ai ids bi) (hni : ids.length = ni) (hmi : ni ≤ 1048576) :
    Calls Try.prog 9 #[.slice a n c, .slice ai ni ci] w fun e w' => e = .returned (.int .i64 (wtQ l ids)) ∧ Bel w w' := by
  go_enter Try.func9, Try.ntmps9
  go_wp2_with fail
  refine (chosen_any _ _ _ l bs _ _ _ ids bi _ hT hn hm hI hni hmi).mono ?_
  rintro e w1 ⟨⟨hP, va, vc, cs, rfl, hS⟩ | ⟨hP, rfl⟩, hb1⟩
  · have HQ : Hid (wtQ l ids = rkS (chQ l ids)) := (by unfold wtQ; rw [if_pos (bP_true hP)] : wtQ l ids = rkS (chQ l ids))
    have HK : Hid (∀ d ∈ chQ l ids, lblK d = true) := fun d hd => lblsP_mem hP (chQ_mem hd)
    have hl5 : (chQ l ids).length ≤ 500 := Nat.le_trans (chQ_len _ _) hP.1
    obtain ⟨q, Hq⟩ : ∃ q, Hid (chQ l ids = q) := ⟨_, (rfl : chQ l ids = _)⟩
    rw [Hq.out] at hl5 hS HQ HK ⊢
    obtain ⟨m, Hm⟩ : ∃ m, Hid (q.length = m) := ⟨_, (rfl : q.length = _)⟩
    rw [Hm.out] at hl5 ⊢
    clear hT hI hP
    go_wp2
    go_loopw [7, 18] (fun s i wr => ∃ k : Nat, k ≤ m ∧ i = .int .i64 k ∧ s = .int .i64 (rkS (q.take k)) ∧ Bel w1 wr) (fun _ i _ => m - (intOf i).toNat)
    case atStart => exact ⟨0, Nat.zero_le _, rfl, rfl, Bel.refl _⟩
    case round =>
      obtain ⟨k, hk, rfl, rfl, hBr⟩ := hrel
      by_cases hlt : k < m
      · have hkl : k < q.length := by rw [Hm.out]; exact hlt
        obtain ⟨b, off, f, rfl, hb, hx⟩ := (hS.bel lblE hBr).out hkl
        obtain ⟨_, _, _, _, _, _, _, c0, c1, c2, c3, c4, c5⟩ := hx k hkl
        have HST : Hid (rkS (q.take (k + 1)) = rkS (q.take k) + q[k].rk) := by
          rw [List.take_succ_eq_append_getElem hkl, rkS_app, rkS_one]; exact rfl
        have hb0 := rkS_bd (l := q.take k) (fun d hd => HK.out d (List.mem_of_mem_take hd))
        have hb1' : (q.take k).length ≤ 500 := by simp; omega
        obtain ⟨_, _, _, _, r0, r1⟩ := lblK_out (HK.out q[k] (List.getElem_mem hkl))
        obtain ⟨d, Hd⟩ : ∃ d, Hid (d = q[k]) := ⟨_, (rfl : q[k] = _)⟩
        rw [← Hd.out] at c0 c1 c2 c3 c4 c5 HST r0 r1
        obtain ⟨s, Hs⟩ : ∃ s, Hid (rkS (q.take k) = s) := ⟨_, (rfl : rkS (q.take k) = _)⟩
        rw [Hs.out] at hb0 HST ⊢
        have hlt' : (k : Int) < (m : Int) := by omega
        have hs0 : 0 ≤ s := hb0.1
        have hs1 : s ≤ 500000 := by have := hb0.2; omega
        have hBa := bel_alloc hBr (.cells #[.int .i64 d.id, .int .i64 d.x, .int .i64 d.y, .int .i64 d.wd, .int .i64 d.ht, .int .i64 d.rk] 33)
        clear hx hS hb0 hb1'
        go_wp2
        go_roundw
        case rel => exact ⟨k + 1, by omega, by go_num, by rw [HST.out], hBa⟩
        case measure => simp [intOf]; omega
      · have e : k = m := by omega
        subst e
        have HE : Hid (wtQ l ids = rkS (q.take k)) := by
          rw [HQ.out, List.take_of_length_le (by rw [Hm.out]; exact Nat.le_refl _)]; exact rfl
        go_wp2
        go_ret
        exact ⟨ret_num HE.out.symm, bel_step hb1 hBr⟩
  · have HQ : Hid (wtQ l ids = 0) := (by unfold wtQ; rw [if_neg (by rw [bP_false hP]; decide)] : wtQ l ids = 0)
    clear hT hI
    go_wp2
    go_loopw [7, 18] (fun s i wr => i = .int .i64 0 ∧ s = .int .i64 0 ∧ wr = w1) (fun _ _ _ => 0)
    case atStart => exact ⟨rfl, rfl, rfl⟩
    case round =>
      obtain ⟨rfl, rfl, rfl⟩ := hrel
      go_wp2
      go_ret
      exact ⟨ret_num HQ.out.symm, hb1⟩

end Go.Proofs.Ytpbpnkklnbmkeaa
