/-
  The law's walk: for every list of tags and every kind SpeedOf answers as its model does, and the list that was handed in stays as it was.
-/
import Derived.Test.YtfdeccmkdhaodaaDoorSpdI
import Derived.Test.YtfdeccmkdhaodaaDoorDTag
namespace Go.Proofs.YtfdeccmkdhaodaaDoor
open Go.RowKit

set_option maxHeartbeats 1000000 in
theorem lawFnExactSpeedOf_any (a : Option Addr) (c : Nat) (l : List TagD) (bs : List Nat) (kind : Int) (w : World) (hT : Tags w a l bs) (hm : l.length ≤ maxLen) (_hk : (Lit.int .i64 kind).wf = true) :
    Calls Tryd.prog 3 #[.slice a l.length c, .int .i64 kind] w fun e w' => e = .returned (.bool true) ∧ Bel w w' := by
  obtain ⟨n, hn⟩ : ∃ n, l.length = n := ⟨_, rfl⟩
  rw [hn] at hm ⊢
  unfold maxLen at hm
  have Hn : Hid (l.length = n) := hn
  have hsz : l.length ≤ tagsSz l := by unfold tagsSz; omega
  rw [hn] at hsz
  by_cases hf : ((tagsSz l : Nat) : Int) ≤ 1048576
  · have hs : szR 1048576 (tagsSz l) = 1048576 - tagsSz l := szR_pos hf
    obtain ⟨r, Hr⟩ : ∃ r, Hid (szR 1048576 (tagsSz l) = r) := ⟨_, (rfl : szR 1048576 (tagsSz l) = _)⟩
    have hr0 : 0 ≤ r := by rw [← Hr.out, hs]; omega
    have hn' : n ≤ 1048576 := by omega
    obtain ⟨q, Hq⟩ : ∃ q, Hid (spdQ l kind = q) := ⟨_, (rfl : spdQ l kind = _)⟩
    have hqq : (q != q) = false := by simp
    clear hs hn hf hsz
    go_enter Tryd.func3, Tryd.ntmps3
    go_wp2_with fail
    refine (szTagS_any _ _ _ l bs _ _ hT Hn.out (by omega) (by omega) (by omega)).mono ?_
    rintro e w1 ⟨rfl, hb1⟩
    rw [Hr.out]
    go_wp2_with fail
    refine (toTagS_any _ _ _ l bs _ (hT.bel2 hb1) Hn.out hn').mono ?_
    rintro e w2 ⟨B2, d2, rfl, u2, _, hb2⟩
    have hB2 := bel_step hb1 hb2
    go_wp2_with fail
    refine (specSpeedOf_any _ _ _ l d2 kind _ u2 Hn.out hn').mono ?_
    rintro e w3 ⟨rfl, hb3⟩
    rw [Hq.out]
    have hB3 := bel_step hB2 hb3
    go_wp2_with fail
    refine (toTagS_any _ _ _ l bs _ (hT.bel2 hB3) Hn.out hn').mono ?_
    rintro e w4 ⟨B4, d4, rfl, u4, _, hb4⟩
    have hB4 := bel_step hB3 hb4
    go_wp2_with fail
    refine (speedOf_any _ _ _ l d4 kind _ u4 Hn.out hn').mono ?_
    rintro e w5 ⟨rfl, hb5⟩
    rw [Hq.out]
    have hB5 := bel_step hB4 hb5
    go_wp2_with fail
    refine (toTagS_any _ _ _ l bs _ (hT.bel2 hB5) Hn.out hn').mono ?_
    rintro e w6 ⟨B6, d6, rfl, u6, _, hb6⟩
    have hB6 := bel_step hB5 hb6
    go_wp2_with fail
    refine (eqTagS_same _ _ _ _ _ l d4 d6 _ (u4.bel2 (bel_step hb5 hb6)) u6 Hn.out hn').mono ?_
    rintro e w7 ⟨rfl, hb7⟩
    go_wp2
    go_ret
    exact ⟨rfl, bel_step hB6 hb7⟩
  · obtain ⟨r, Hr⟩ : ∃ r, Hid (szR 1048576 (tagsSz l) = r) := ⟨_, (rfl : szR 1048576 (tagsSz l) = _)⟩
    have hr0 : r = -1 := by rw [← Hr.out]; exact szR_neg hf
    subst hr0
    clear hn hf hsz
    go_enter Tryd.func3, Tryd.ntmps3
    go_wp2_with fail
    refine (szTagS_any _ _ _ l bs _ _ hT Hn.out (by omega) (by omega) (by omega)).mono ?_
    rintro e w1 ⟨rfl, hb1⟩
    rw [Hr.out]
    go_wp2
    go_ret
    exact ⟨rfl, hb1⟩

end Go.Proofs.YtfdeccmkdhaodaaDoor
