/-
  Which way a way is driven: contracts, in the program and in its model.
-/
import Derived.Test.YtfdeccmkdhaodaaTagS
namespace Go.Proofs.Ytfdeccmkdhaodaa
open Go.RowKit

/-- Out of: yes, -1, empty, ring. -/
def ow4 (b1 b2 b3 b4 : Bool) : Int := if b1 then 1 else if b2 then -1 else if b3 && b4 then 1 else 0
/-- 1: along, -1: against, 0: both. -/
def owQ (l : List TagD) (kind : Int) : Int :=
  if kind = 1 then ow4 ((tagOfL l ⟨#[111, 110, 101, 119, 97, 121]⟩).toList == [121, 101, 115]) ((tagOfL l ⟨#[111, 110, 101, 119, 97, 121]⟩).toList == [45, 49]) (tagOfL l ⟨#[111, 110, 101, 119, 97, 121]⟩).toList.isEmpty ((tagOfL l ⟨#[106, 117, 110, 99, 116, 105, 111, 110]⟩).toList == [114, 105, 110, 103]) else 0
theorem owQ_one {l : List TagD} {o j : ByteArray} (ho : tagOfL l ⟨#[111, 110, 101, 119, 97, 121]⟩ = o) (hj : tagOfL l ⟨#[106, 117, 110, 99, 116, 105, 111, 110]⟩ = j) {b1 b2 b3 b4 : Bool} (h1 : (o.toList == [121, 101, 115]) = b1) (h2 : (o.toList == [45, 49]) = b2) (h3 : o.toList.isEmpty = b3) (h4 : (j.toList == [114, 105, 110, 103]) = b4) : owQ l 1 = ow4 b1 b2 b3 b4 := by
  unfold owQ
  rw [if_pos rfl, ho, hj, h1, h2, h3, h4]

set_option maxHeartbeats 1000000 in
theorem oneway_any (a : Option Addr) (n c : Nat) (l : List TagD) (bs : List Nat) (kind : Int) (w : World) (hT : Tags w a l bs) (hn : l.length = n) (hm : n ≤ 1048576) :
    Calls Try.prog 21 #[.slice a n c, .int .i64 kind] w fun e w' => e = .returned (.int .i64 (owQ l kind)) ∧ Bel w w' := by
  have Hn : Hid (l.length = n) := hn
  clear hn
  obtain ⟨o, Ho⟩ : ∃ o, Hid (tagOfL l ⟨#[111, 110, 101, 119, 97, 121]⟩ = o) := ⟨_, (rfl : tagOfL l ⟨#[111, 110, 101, 119, 97, 121]⟩ = _)⟩
  obtain ⟨j, Hj⟩ : ∃ o, Hid (tagOfL l ⟨#[106, 117, 110, 99, 116, 105, 111, 110]⟩ = o) := ⟨_, (rfl : tagOfL l ⟨#[106, 117, 110, 99, 116, 105, 111, 110]⟩ = _)⟩
  by_cases hk : kind = 1
  · subst hk
    have HQ := fun b1 b2 b3 b4 => owQ_one (b1 := b1) (b2 := b2) (b3 := b3) (b4 := b4) Ho.out Hj.out
    have HQ' : Hid (∀ b1 b2 b3 b4, (o.toList == [121, 101, 115]) = b1 → (o.toList == [45, 49]) = b2 → o.toList.isEmpty = b3 → (j.toList == [114, 105, 110, 103]) = b4 → owQ l 1 = ow4 b1 b2 b3 b4) := HQ
    clear HQ
    cases h1 : (o.toList == [121, 101, 115]) <;> cases h2 : (o.toList == [45, 49]) <;> cases h3 : o.toList.isEmpty <;> cases h4 : (j.toList == [114, 105, 110, 103])
    · go_enter Try.func21, Try.ntmps21
      go_wp2_with fail
      refine (tagOf_any _ _ _ l bs _ _ hT Hn.out hm).mono ?_
      rintro e w1 ⟨rfl, hb1⟩
      rw [Ho.out]
      go_wp2
      go_ret
      exact ⟨ret_num (HQ'.out _ _ _ _ h1 h2 h3 h4).symm, hb1⟩
    · go_enter Try.func21, Try.ntmps21
      go_wp2_with fail
      refine (tagOf_any _ _ _ l bs _ _ hT Hn.out hm).mono ?_
      rintro e w1 ⟨rfl, hb1⟩
      rw [Ho.out]
      go_wp2
      go_ret
      exact ⟨ret_num (HQ'.out _ _ _ _ h1 h2 h3 h4).symm, hb1⟩
    · go_enter Try.func21, Try.ntmps21
      go_wp2_with fail
      refine (tagOf_any _ _ _ l bs _ _ hT Hn.out hm).mono ?_
      rintro e w1 ⟨rfl, hb1⟩
      rw [Ho.out]
      go_wp2_with fail
      refine (tagOf_any _ _ _ l bs _ _ (hT.bel2 hb1) Hn.out hm).mono ?_
      rintro e w2 ⟨rfl, hb2⟩
      rw [Hj.out]
      have hB2 := bel_step hb1 hb2
      go_wp2
      go_ret
      exact ⟨ret_num (HQ'.out _ _ _ _ h1 h2 h3 h4).symm, hB2⟩
    · go_enter Try.func21, Try.ntmps21
      go_wp2_with fail
      refine (tagOf_any _ _ _ l bs _ _ hT Hn.out hm).mono ?_
      rintro e w1 ⟨rfl, hb1⟩
      rw [Ho.out]
      go_wp2_with fail
      refine (tagOf_any _ _ _ l bs _ _ (hT.bel2 hb1) Hn.out hm).mono ?_
      rintro e w2 ⟨rfl, hb2⟩
      rw [Hj.out]
      have hB2 := bel_step hb1 hb2
      go_wp2
      go_ret
      exact ⟨ret_num (HQ'.out _ _ _ _ h1 h2 h3 h4).symm, hB2⟩
    · go_enter Try.func21, Try.ntmps21
      go_wp2_with fail
      refine (tagOf_any _ _ _ l bs _ _ hT Hn.out hm).mono ?_
      rintro e w1 ⟨rfl, hb1⟩
      rw [Ho.out]
      go_wp2
      go_ret
      exact ⟨ret_num (HQ'.out _ _ _ _ h1 h2 h3 h4).symm, hb1⟩
    · go_enter Try.func21, Try.ntmps21
      go_wp2_with fail
      refine (tagOf_any _ _ _ l bs _ _ hT Hn.out hm).mono ?_
      rintro e w1 ⟨rfl, hb1⟩
      rw [Ho.out]
      go_wp2
      go_ret
      exact ⟨ret_num (HQ'.out _ _ _ _ h1 h2 h3 h4).symm, hb1⟩
    · exfalso
      first | (rw [eq_of_beq h1] at h2; revert h2; decide) | (rw [eq_of_beq h1] at h3; revert h3; decide) | (rw [eq_of_beq h2] at h3; revert h3; decide)
    · exfalso
      first | (rw [eq_of_beq h1] at h2; revert h2; decide) | (rw [eq_of_beq h1] at h3; revert h3; decide) | (rw [eq_of_beq h2] at h3; revert h3; decide)
    · go_enter Try.func21, Try.ntmps21
      go_wp2_with fail
      refine (tagOf_any _ _ _ l bs _ _ hT Hn.out hm).mono ?_
      rintro e w1 ⟨rfl, hb1⟩
      rw [Ho.out]
      go_wp2
      go_ret
      exact ⟨ret_num (HQ'.out _ _ _ _ h1 h2 h3 h4).symm, hb1⟩
    · go_enter Try.func21, Try.ntmps21
      go_wp2_with fail
      refine (tagOf_any _ _ _ l bs _ _ hT Hn.out hm).mono ?_
      rintro e w1 ⟨rfl, hb1⟩
      rw [Ho.out]
      go_wp2
      go_ret
      exact ⟨ret_num (HQ'.out _ _ _ _ h1 h2 h3 h4).symm, hb1⟩
    · exfalso
      first | (rw [eq_of_beq h1] at h2; revert h2; decide) | (rw [eq_of_beq h1] at h3; revert h3; decide) | (rw [eq_of_beq h2] at h3; revert h3; decide)
    · exfalso
      first | (rw [eq_of_beq h1] at h2; revert h2; decide) | (rw [eq_of_beq h1] at h3; revert h3; decide) | (rw [eq_of_beq h2] at h3; revert h3; decide)
    · exfalso
      first | (rw [eq_of_beq h1] at h2; revert h2; decide) | (rw [eq_of_beq h1] at h3; revert h3; decide) | (rw [eq_of_beq h2] at h3; revert h3; decide)
    · exfalso
      first | (rw [eq_of_beq h1] at h2; revert h2; decide) | (rw [eq_of_beq h1] at h3; revert h3; decide) | (rw [eq_of_beq h2] at h3; revert h3; decide)
    · exfalso
      first | (rw [eq_of_beq h1] at h2; revert h2; decide) | (rw [eq_of_beq h1] at h3; revert h3; decide) | (rw [eq_of_beq h2] at h3; revert h3; decide)
    · exfalso
      first | (rw [eq_of_beq h1] at h2; revert h2; decide) | (rw [eq_of_beq h1] at h3; revert h3; decide) | (rw [eq_of_beq h2] at h3; revert h3; decide)
  · go_enter Try.func21, Try.ntmps21
    go_wp2
    go_ret
    exact ⟨ret_num (by unfold owQ; rw [if_neg hk]), Bel.refl _⟩

set_option maxHeartbeats 1000000 in
theorem specOneway_any (a : Option Addr) (n c : Nat) (l : List TagD) (bs : List Nat) (kind : Int) (w : World) (hT : Tags w a l bs) (hn : l.length = n) (hm : n ≤ 1048576) :
    Calls Try.prog 19 #[.slice a n c, .int .i64 kind] w fun e w' => e = .returned (.int .i64 (owQ l kind)) ∧ Bel w w' := by
  have Hn : Hid (l.length = n) := hn
  clear hn
  obtain ⟨o, Ho⟩ : ∃ o, Hid (tagOfL l ⟨#[111, 110, 101, 119, 97, 121]⟩ = o) := ⟨_, (rfl : tagOfL l ⟨#[111, 110, 101, 119, 97, 121]⟩ = _)⟩
  obtain ⟨j, Hj⟩ : ∃ o, Hid (tagOfL l ⟨#[106, 117, 110, 99, 116, 105, 111, 110]⟩ = o) := ⟨_, (rfl : tagOfL l ⟨#[106, 117, 110, 99, 116, 105, 111, 110]⟩ = _)⟩
  by_cases hk : kind = 1
  · subst hk
    have HQ := fun b1 b2 b3 b4 => owQ_one (b1 := b1) (b2 := b2) (b3 := b3) (b4 := b4) Ho.out Hj.out
    have HQ' : Hid (∀ b1 b2 b3 b4, (o.toList == [121, 101, 115]) = b1 → (o.toList == [45, 49]) = b2 → o.toList.isEmpty = b3 → (j.toList == [114, 105, 110, 103]) = b4 → owQ l 1 = ow4 b1 b2 b3 b4) := HQ
    clear HQ
    cases h1 : (o.toList == [121, 101, 115]) <;> cases h2 : (o.toList == [45, 49]) <;> cases h3 : o.toList.isEmpty <;> cases h4 : (j.toList == [114, 105, 110, 103])
    · go_enter Try.func19, Try.ntmps19
      go_wp2_with fail
      refine (specTagOf_any _ _ _ l bs _ _ hT Hn.out hm).mono ?_
      rintro e w1 ⟨rfl, hb1⟩
      rw [Ho.out]
      go_wp2
      go_ret
      exact ⟨ret_num (HQ'.out _ _ _ _ h1 h2 h3 h4).symm, hb1⟩
    · go_enter Try.func19, Try.ntmps19
      go_wp2_with fail
      refine (specTagOf_any _ _ _ l bs _ _ hT Hn.out hm).mono ?_
      rintro e w1 ⟨rfl, hb1⟩
      rw [Ho.out]
      go_wp2
      go_ret
      exact ⟨ret_num (HQ'.out _ _ _ _ h1 h2 h3 h4).symm, hb1⟩
    · go_enter Try.func19, Try.ntmps19
      go_wp2_with fail
      refine (specTagOf_any _ _ _ l bs _ _ hT Hn.out hm).mono ?_
      rintro e w1 ⟨rfl, hb1⟩
      rw [Ho.out]
      go_wp2_with fail
      refine (specTagOf_any _ _ _ l bs _ _ (hT.bel2 hb1) Hn.out hm).mono ?_
      rintro e w2 ⟨rfl, hb2⟩
      rw [Hj.out]
      have hB2 := bel_step hb1 hb2
      go_wp2
      go_ret
      exact ⟨ret_num (HQ'.out _ _ _ _ h1 h2 h3 h4).symm, hB2⟩
    · go_enter Try.func19, Try.ntmps19
      go_wp2_with fail
      refine (specTagOf_any _ _ _ l bs _ _ hT Hn.out hm).mono ?_
      rintro e w1 ⟨rfl, hb1⟩
      rw [Ho.out]
      go_wp2_with fail
      refine (specTagOf_any _ _ _ l bs _ _ (hT.bel2 hb1) Hn.out hm).mono ?_
      rintro e w2 ⟨rfl, hb2⟩
      rw [Hj.out]
      have hB2 := bel_step hb1 hb2
      go_wp2
      go_ret
      exact ⟨ret_num (HQ'.out _ _ _ _ h1 h2 h3 h4).symm, hB2⟩
    · go_enter Try.func19, Try.ntmps19
      go_wp2_with fail
      refine (specTagOf_any _ _ _ l bs _ _ hT Hn.out hm).mono ?_
      rintro e w1 ⟨rfl, hb1⟩
      rw [Ho.out]
      go_wp2
      go_ret
      exact ⟨ret_num (HQ'.out _ _ _ _ h1 h2 h3 h4).symm, hb1⟩
    · go_enter Try.func19, Try.ntmps19
      go_wp2_with fail
      refine (specTagOf_any _ _ _ l bs _ _ hT Hn.out hm).mono ?_
      rintro e w1 ⟨rfl, hb1⟩
      rw [Ho.out]
      go_wp2
      go_ret
      exact ⟨ret_num (HQ'.out _ _ _ _ h1 h2 h3 h4).symm, hb1⟩
    · exfalso
      first | (rw [eq_of_beq h1] at h2; revert h2; decide) | (rw [eq_of_beq h1] at h3; revert h3; decide) | (rw [eq_of_beq h2] at h3; revert h3; decide)
    · exfalso
      first | (rw [eq_of_beq h1] at h2; revert h2; decide) | (rw [eq_of_beq h1] at h3; revert h3; decide) | (rw [eq_of_beq h2] at h3; revert h3; decide)
    · go_enter Try.func19, Try.ntmps19
      go_wp2_with fail
      refine (specTagOf_any _ _ _ l bs _ _ hT Hn.out hm).mono ?_
      rintro e w1 ⟨rfl, hb1⟩
      rw [Ho.out]
      go_wp2
      go_ret
      exact ⟨ret_num (HQ'.out _ _ _ _ h1 h2 h3 h4).symm, hb1⟩
    · go_enter Try.func19, Try.ntmps19
      go_wp2_with fail
      refine (specTagOf_any _ _ _ l bs _ _ hT Hn.out hm).mono ?_
      rintro e w1 ⟨rfl, hb1⟩
      rw [Ho.out]
      go_wp2
      go_ret
      exact ⟨ret_num (HQ'.out _ _ _ _ h1 h2 h3 h4).symm, hb1⟩
    · exfalso
      first | (rw [eq_of_beq h1] at h2; revert h2; decide) | (rw [eq_of_beq h1] at h3; revert h3; decide) | (rw [eq_of_beq h2] at h3; revert h3; decide)
    · exfalso
      first | (rw [eq_of_beq h1] at h2; revert h2; decide) | (rw [eq_of_beq h1] at h3; revert h3; decide) | (rw [eq_of_beq h2] at h3; revert h3; decide)
    · exfalso
      first | (rw [eq_of_beq h1] at h2; revert h2; decide) | (rw [eq_of_beq h1] at h3; revert h3; decide) | (rw [eq_of_beq h2] at h3; revert h3; decide)
    · exfalso
      first | (rw [eq_of_beq h1] at h2; revert h2; decide) | (rw [eq_of_beq h1] at h3; revert h3; decide) | (rw [eq_of_beq h2] at h3; revert h3; decide)
    · exfalso
      first | (rw [eq_of_beq h1] at h2; revert h2; decide) | (rw [eq_of_beq h1] at h3; revert h3; decide) | (rw [eq_of_beq h2] at h3; revert h3; decide)
    · exfalso
      first | (rw [eq_of_beq h1] at h2; revert h2; decide) | (rw [eq_of_beq h1] at h3; revert h3; decide) | (rw [eq_of_beq h2] at h3; revert h3; decide)
  · go_enter Try.func19, Try.ntmps19
    go_wp2_with fail
    refine (specTagOf_any _ _ _ l bs _ _ hT Hn.out hm).mono ?_
    rintro e w1 ⟨rfl, hb1⟩
    go_wp2
    go_ret
    exact ⟨ret_num (by unfold owQ; rw [if_neg hk]), hb1⟩
end Go.Proofs.Ytfdeccmkdhaodaa
