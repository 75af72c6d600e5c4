/-
  What chosen labels weigh: contracts, of the program and of its model.
-/
import Derived.Test.YtbebgfhblalghaaLblW
namespace Go.Proofs.Ytbebgfhblalghaa
open Go.RowKit Go.Maps

set_option maxRecDepth 100000 in
set_option maxHeartbeats 4000000 in
theorem weight_any (a : Option Addr) (n c : Nat) (l : List LblD) (bs : List Nat) (ai : Option Addr) (ni ci : Nat) (ids : List Int) (bi : List Nat) (w : World) (hT : LblL w a l bs) (hn : l.length = n) (hm : n ≤ 1048576) (hI : Ints w ai ids bi) (hni : ids.length = ni) (hmi : ni ≤ 1048576) :
    Calls Try.prog 24 #[.slice a n c, .slice ai ni ci] w fun e w' => e = .returned (.int .i64 (wtQ l ids)) ∧ Bel w w' := by
  go_enter Try.func24, Try.ntmps24
  go_wp2_with fail
  refine (chosen_any _ _ _ l bs _ _ _ ids bi _ hT hn hm hI hni hmi).mono ?_
  rintro e w1 ⟨⟨hP, va, vc, cs, rfl, hS⟩ | ⟨hP, rfl⟩, hb1⟩
  · have HQ : Hid (wtQ l ids = rkS (chQ l ids)) := (by unfold wtQ; rw [if_pos (bP_true hP)] : wtQ l ids = rkS (chQ l ids))
    have HK : Hid (∀ d ∈ chQ l ids, lblK d = true) := fun d hd => lblsP_mem hP (chQ_mem hd)
    have hl5 : (chQ l ids).length ≤ 500 := Nat.le_trans (chQ_len _ _) hP.1
    obtain ⟨q, Hq⟩ : ∃ q, Hid (chQ l ids = q) := ⟨_, (rfl : chQ l ids = _)⟩
    rw [Hq.out] at hl5 hS HQ HK ⊢
    obtain ⟨m, Hm⟩ : ∃ m, Hid (q.length = m) := ⟨_, (rfl : q.length = _)⟩
    rw [Hm.out] at hl5 ⊢
    clear hT hI hP
    go_wp2
    go_loopw [7, 18] (fun s i wr => ∃ k : Nat, k ≤ m ∧ i = .int .i64 k ∧ s = .int .i64 (rkS (q.take k)) ∧ Bel w1 wr) (fun _ i _ => m - (intOf i).toNat)
    case atStart => exact ⟨0, Nat.zero_le _, rfl, rfl, Bel.refl _⟩
    case round =>
      obtain ⟨k, hk, rfl, rfl, hBr⟩ := hrel
      by_cases hlt : k < m
      · have hkl : k < q.length := by rw [Hm.out]; exact hlt
        obtain ⟨b, off, f, rfl, hb, hx⟩ := (hS.bel lblE hBr).out hkl
        obtain ⟨_, _, _, _, _, _, _, c0, c1, c2, c3, c4, c5⟩ := hx k hkl
        have HST : Hid (rkS (q.take (k + 1)) = rkS (q.take k) + q[k].rk) := by
          rw [List.take_succ_eq_append_getElem hkl, rkS_app, rkS_one]; exact rfl
        have hb0 := rkS_bd (l := q.take k) (fun d hd => HK.out d (List.mem_of_mem_take hd))
        have hb1' : (q.take k).length ≤ 500 := by simp; omega
        obtain ⟨_, _, _, _, r0, r1⟩ := lblK_out (HK.out q[k] (List.getElem_mem hkl))
        obtain ⟨d, Hd⟩ : ∃ d, Hid (d = q[k]) := ⟨_, (rfl : q[k] = _)⟩
        rw [← Hd.out] at c0 c1 c2 c3 c4 c5 HST r0 r1
        obtain ⟨s, Hs⟩ : ∃ s, Hid (rkS (q.take k) = s) := ⟨_, (rfl : rkS (q.take k) = _)⟩
        rw [Hs.out] at hb0 HST ⊢
        have hlt' : (k : Int) < (m : Int) := by omega
        have hs0 : 0 ≤ s := hb0.1
        have hs1 : s ≤ 500000 := by have := hb0.2; omega
        have hBa := bel_alloc hBr (.cells #[.int .i64 d.id, .int .i64 d.x, .int .i64 d.y, .int .i64 d.wd, .int .i64 d.ht, .int .i64 d.rk] 36)
        clear hx hS hb0 hb1'
        go_wp2
        go_roundw
        case rel => exact ⟨k + 1, by omega, by go_num, by rw [HST.out], hBa⟩
        case measure => simp [intOf]; omega
      · have e : k = m := by omega
        subst e
        have HE : Hid (wtQ l ids = rkS (q.take k)) := by
          rw [HQ.out, List.take_of_length_le (by rw [Hm.out]; exact Nat.le_refl _)]; exact rfl
        go_wp2
        go_ret
        exact ⟨ret_num HE.out.symm, bel_step hb1 hBr⟩
  · have HQ : Hid (wtQ l ids = 0) := (by unfold wtQ; rw [if_neg (by rw [bP_false hP]; decide)] : wtQ l ids = 0)
    clear hT hI
    go_wp2
    go_loopw [7, 18] (fun s i wr => i = .int .i64 0 ∧ s = .int .i64 0 ∧ wr = w1) (fun _ _ _ => 0)
    case atStart => exact ⟨rfl, rfl, rfl⟩
    case round =>
      obtain ⟨rfl, rfl, rfl⟩ := hrel
      go_wp2
      go_ret
      exact ⟨ret_num HQ.out.symm, hb1⟩

set_option maxRecDepth 100000 in
set_option maxHeartbeats 4000000 in
theorem specWeight_any (a : Option Addr) (n c : Nat) (l : List LblD) (bs : List Nat) (ai : Option Addr) (ni ci : Nat) (ids : List Int) (bi : List Nat) (w : World) (hT : LblL w a l bs) (hn : l.length = n) (hm : n ≤ 1048576) (hc : n ≤ c) (hI : Ints w ai ids bi) (hni : ids.length = ni) (hmi : ni ≤ 1048576) :
    Calls Try.prog 22 #[.slice a n c, .slice ai ni ci] w fun e w' => e = .returned (.int .i64 (wtQ l ids)) ∧ Bel w w' := by
  have Hn : Hid (l.length = n) := hn
  clear hn
  rcases Bool.eq_false_or_eq_true (bP (lblsP l)) with hp | hp
  · have HP : Hid (lblsP l) := bP_out hp
    have h5 : n ≤ 500 := by rw [← Hn.out]; exact HP.out.1
    have HQ : Hid (wtQ l ids = rkS (chQ l ids)) := (by unfold wtQ; rw [if_pos hp] : wtQ l ids = rkS (chQ l ids))
    go_enter Try.func22, Try.ntmps22
    go_wp2_with fail
    refine (specLabelsOk_any _ _ _ l bs _ hT Hn.out hm hc).mono ?_
    rintro e w1 ⟨rfl, hb1⟩
    rw [hp]
    have hT1 := hT.bel lblE hb1
    have hI1 := hI.bel intE hb1
    clear hT hI
    go_wp2
    go_loop [5, 6] (fun s i => ∃ k : Nat, k ≤ n ∧ i = .int .i64 k ∧ s = .int .i64 (rkS (chQ (l.take k) ids))) (fun _ i => n - (intOf i).toNat)
    case atStart => exact ⟨0, Nat.zero_le _, rfl, rfl⟩
    case round =>
      obtain ⟨k, hk, rfl, rfl⟩ := hrel
      by_cases hlt : k < n
      · have hkl : k < l.length := by rw [Hn.out]; exact hlt
        obtain ⟨b, off, f, rfl, hb, hx⟩ := hT1.out hkl
        obtain ⟨_, _, _, _, _, _, _, c0, _, _, _, _, c5⟩ := hx k hkl
        have hb0 := rkS_bd (l := chQ (l.take k) ids) (fun d hd => lblsP_mem HP.out (List.mem_of_mem_take (chQ_mem hd)))
        have hb1' : (chQ (l.take k) ids).length ≤ 500 := Nat.le_trans (chQ_len _ _) (by simp; omega)
        obtain ⟨_, _, _, _, r0, r1⟩ := lblK_out (HP.out.2 k hkl).1
        obtain ⟨d, Hd⟩ : ∃ d, Hid (d = l[k]) := ⟨_, (rfl : l[k] = _)⟩
        rw [← Hd.out] at c0 c5 r0 r1
        obtain ⟨s, Hs⟩ : ∃ s, Hid (rkS (chQ (l.take k) ids) = s) := ⟨_, (rfl : rkS (chQ (l.take k) ids) = _)⟩
        rw [Hs.out] at hb0 ⊢
        have hlt' : (k : Int) < (n : Int) := by omega
        have hs0 : 0 ≤ s := hb0.1
        have hs1 : s ≤ 500000 := by have := hb0.2; omega
        clear hx hT1 hb0 hb1'
        by_cases hi : d.id ∈ ids
        · have HST : Hid (rkS (chQ (l.take (k + 1)) ids) = s + d.rk) := by
            have := chQ_step (ids := ids) hkl (by rw [← Hd.out]; exact hi)
            rw [this, rkS_app, rkS_one, ← Hd.out, Hs.out]; exact rfl
          have hbt : decide (d.id ∈ ids) = true := decide_eq_true hi
          go_wp2_with fail
          refine (l2HasId_any _ _ _ ids bi d.id _ hI1 hni hmi).mono ?_
          rintro e w2 ⟨rfl, rfl⟩
          rw [hbt]
          clear hI1
          go_wp2
          go_roundw
          case rel => exact ⟨k + 1, by omega, by go_num, by rw [HST.out]⟩
          case measure => simp [intOf]; omega
        · have HST : Hid (rkS (chQ (l.take (k + 1)) ids) = s) := by
            rw [chQ_skip (ids := ids) hkl (by rw [← Hd.out]; exact hi), Hs.out]; exact rfl
          have hbt : decide (d.id ∈ ids) = false := decide_eq_false hi
          go_wp2_with fail
          refine (l2HasId_any _ _ _ ids bi d.id _ hI1 hni hmi).mono ?_
          rintro e w2 ⟨rfl, rfl⟩
          rw [hbt]
          clear hI1
          go_wp2
          go_roundw
          case rel => exact ⟨k + 1, by omega, by go_num, by rw [HST.out]⟩
          case measure => simp [intOf]; omega
      · have e : k = n := by omega
        subst e
        have HE : Hid (wtQ l ids = rkS (chQ (l.take k) ids)) := by
          rw [HQ.out, List.take_of_length_le (by rw [Hn.out]; exact Nat.le_refl _)]; exact rfl
        go_wp2
        go_ret
        exact ⟨ret_num HE.out.symm, hb1⟩
  · have HQ : Hid (wtQ l ids = 0) := (by unfold wtQ; rw [if_neg (by rw [hp]; decide)] : wtQ l ids = 0)
    go_enter Try.func22, Try.ntmps22
    go_wp2_with fail
    refine (specLabelsOk_any _ _ _ l bs _ hT Hn.out hm hc).mono ?_
    rintro e w1 ⟨rfl, hb1⟩
    rw [hp]
    go_wp2
    go_ret
    exact ⟨ret_num HQ.out.symm, hb1⟩
end Go.Proofs.Ytbebgfhblalghaa
