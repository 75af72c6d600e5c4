/-
  How fast a way is gone: contracts, in the program and in its model.
-/
import Derived.Test.YtfdeccmkdhaodaaDoorSpdC
import Derived.Test.YtfdeccmkdhaodaaDoorSpdS
namespace Go.Proofs.YtfdeccmkdhaodaaDoor
open Go.RowKit

def spd (a h m : ByteArray) (kind : Int) : Int :=
  if (a.toList == [110, 111]) || (a.toList == [112, 114, 105, 118, 97, 116, 101]) then 0 else if kind = 1 then limQ (carV h) m else if kind = 2 then footV h else 0
/-- How fast a way with these tags is gone. -/
def spdQ (l : List TagD) (kind : Int) : Int := spd (tagOfL l ⟨#[97, 99, 99, 101, 115, 115]⟩) (tagOfL l ⟨#[104, 105, 103, 104, 119, 97, 121]⟩) (tagOfL l ⟨#[109, 97, 120, 115, 112, 101, 101, 100]⟩) kind
theorem spd_no {a h m : ByteArray} {kind : Int} {b1 b2 : Bool} (h1 : (a.toList == [110, 111]) = b1) (h2 : (a.toList == [112, 114, 105, 118, 97, 116, 101]) = b2) (hb : (b1 || b2) = true) : spd a h m kind = 0 := by
  unfold spd; rw [h1, h2, if_pos hb]
theorem spd_yes {a h m : ByteArray} {kind : Int} (h1 : (a.toList == [110, 111]) = false) (h2 : (a.toList == [112, 114, 105, 118, 97, 116, 101]) = false) : spd a h m kind = if kind = 1 then limQ (carV h) m else if kind = 2 then footV h else 0 := by
  unfold spd; rw [h1, h2, if_neg (by decide)]
theorem limQ_zero (m : ByteArray) : limQ 0 m = 0 := by
  unfold limQ; rw [if_neg (by rintro ⟨_, a, b⟩; omega)]
theorem spd_empty {a h m : ByteArray} {kind : Int} (h0 : h.toList.isEmpty = true) : spd a h m kind = 0 := by
  have e : h.toList = [] := by simpa using h0
  have c : carV h = 0 := by unfold carV; rw [e]; rfl
  have f : footV h = 0 := by unfold footV; rw [e]; rfl
  unfold spd; rw [c, f, limQ_zero]; simp
theorem carV_le (h : ByteArray) : carV h ≤ 30 := by unfold carV car3; split <;> (try split) <;> (try split) <;> omega
theorem limQ_l7 {v : Int} (hv : v ≤ 30) (m : ByteArray) : limQ v m = if 1 ≤ l7Q m 30 ∧ l7Q m 30 < v then l7Q m 30 else v := by
  unfold limQ l7Q
  by_cases h1 : textB db 10 m = true
  · by_cases h2 : nmV m ≤ 30
    · rw [if_pos (⟨h1, h2⟩ : textB db 10 m = true ∧ nmV m ≤ 30)]; simp [h1]
    · rw [if_neg (by rintro ⟨_, h⟩; exact h2 h : ¬ (textB db 10 m = true ∧ nmV m ≤ 30)), if_neg (by rintro ⟨_, _, h⟩; omega), if_neg (by rintro ⟨h, _⟩; omega)]
  · rw [if_neg (by rintro ⟨h, _⟩; exact h1 h : ¬ (textB db 10 m = true ∧ nmV m ≤ 30)), if_neg (by rintro ⟨h, _⟩; exact h1 h), if_neg (by rintro ⟨h, _⟩; omega)]
theorem tagOfL_small : ∀ (l : List TagD) (key : ByteArray), (∀ t ∈ l, t.v.size ≤ maxLen) → (tagOfL l key).size ≤ maxLen
  | [], _, _ => by simp only [tagOfL]; exact Nat.zero_le _
  | t :: r, key, h => by
    simp only [tagOfL]
    split
    · exact h t (by simp)
    · exact tagOfL_small r key fun x hx => h x (by simp [hx])
theorem tags_small {w : World} {a : Option Addr} {l : List TagD} {bs : List Nat} (hT : Tags w a l bs) (key : ByteArray) : (tagOfL l key).size ≤ maxLen :=
  tagOfL_small l key fun t ht => by
    obtain ⟨i, hi, rfl⟩ := List.getElem_of_mem ht
    obtain ⟨b, off, f, _, _, hx⟩ := hT.out hi
    exact (hx i hi).2.2.1

set_option maxHeartbeats 1000000 in
theorem speedOf_any (a : Option Addr) (n c : Nat) (l : List TagD) (bs : List Nat) (kind : Int) (w : World) (hT : Tags w a l bs) (hn : l.length = n) (hm : n ≤ 1048576) :
    Calls Tryd.prog 7 #[.slice a n c, .int .i64 kind] w fun e w' => e = .returned (.int .i64 (spdQ l kind)) ∧ Bel w w' := by
  have Hn : Hid (l.length = n) := hn
  clear hn
  obtain ⟨ac, Ha⟩ : ∃ o, Hid (tagOfL l ⟨#[97, 99, 99, 101, 115, 115]⟩ = o) := ⟨_, (rfl : tagOfL l ⟨#[97, 99, 99, 101, 115, 115]⟩ = _)⟩
  obtain ⟨hi, Hh⟩ : ∃ o, Hid (tagOfL l ⟨#[104, 105, 103, 104, 119, 97, 121]⟩ = o) := ⟨_, (rfl : tagOfL l ⟨#[104, 105, 103, 104, 119, 97, 121]⟩ = _)⟩
  obtain ⟨mx, Hm⟩ : ∃ o, Hid (tagOfL l ⟨#[109, 97, 120, 115, 112, 101, 101, 100]⟩ = o) := ⟨_, (rfl : tagOfL l ⟨#[109, 97, 120, 115, 112, 101, 101, 100]⟩ = _)⟩
  have hms : mx.size ≤ maxLen := by rw [← Hm.out]; exact tags_small hT _
  have HQ : Hid (spdQ l kind = spd ac hi mx kind) := show spdQ l kind = spd ac hi mx kind by unfold spdQ; rw [Ha.out, Hh.out, Hm.out]
  cases a1 : (ac.toList == [110, 111]) <;> cases a2 : (ac.toList == [112, 114, 105, 118, 97, 116, 101])
  · by_cases k1 : kind = 1
    · subst k1
      have HR : Hid (limQ (carV hi) mx = spdQ l 1) := show limQ (carV hi) mx = spdQ l 1 by rw [HQ.out, spd_yes a1 a2, if_pos rfl]
      go_enter Tryd.func7, Tryd.ntmps7
      go_wp2_with fail
      refine (tagOf_any _ _ _ l bs _ _ hT Hn.out hm).mono ?_
      rintro e w1 ⟨rfl, b1⟩
      rw [Ha.out]
      have B1 := b1
      go_wp2_with fail
      refine (tagOf_any _ _ _ l bs _ _ (hT.bel2 B1) Hn.out hm).mono ?_
      rintro e w2 ⟨rfl, b2⟩
      rw [Hh.out]
      have B2 := bel_step B1 b2
      go_wp2_with fail
      refine (carSpeed_any hi _).mono ?_
      rintro e w3 ⟨rfl, rfl⟩
      obtain ⟨cv, Hc⟩ : ∃ o, Hid (carV hi = o) := ⟨_, (rfl : carV hi = _)⟩
      rw [Hc.out]
      go_wp2_with fail
      refine (tagOf_any _ _ _ l bs _ _ (hT.bel2 B2) Hn.out hm).mono ?_
      rintro e w4 ⟨rfl, b4⟩
      rw [Hm.out]
      have B4 := bel_step B2 b4
      go_wp2_with fail
      refine (limited_any _ _ _ hms).mono ?_
      rintro e w5 ⟨rfl, b5⟩
      have B5 := bel_step B4 b5
      go_wp2
      go_ret
      exact ⟨ret_num (by rw [← Hc.out]; exact HR.out), B5⟩
    · by_cases k2 : kind = 2
      · subst k2
        have HR : Hid (footV hi = spdQ l 2) := show footV hi = spdQ l 2 by rw [HQ.out, spd_yes a1 a2, if_neg (by decide), if_pos rfl]
        go_enter Tryd.func7, Tryd.ntmps7
        go_wp2_with fail
        refine (tagOf_any _ _ _ l bs _ _ hT Hn.out hm).mono ?_
        rintro e w1 ⟨rfl, b1⟩
        rw [Ha.out]
        have B1 := b1
        go_wp2_with fail
        refine (tagOf_any _ _ _ l bs _ _ (hT.bel2 B1) Hn.out hm).mono ?_
        rintro e w2 ⟨rfl, b2⟩
        rw [Hh.out]
        have B2 := bel_step B1 b2
        go_wp2_with fail
        refine (footSpeed_any hi _).mono ?_
        rintro e w3 ⟨rfl, rfl⟩
        go_wp2
        go_ret
        exact ⟨ret_num HR.out, B2⟩
      · have HR : Hid (0 = spdQ l kind) := show 0 = spdQ l kind by rw [HQ.out, spd_yes a1 a2, if_neg k1, if_neg k2]
        go_enter Tryd.func7, Tryd.ntmps7
        go_wp2_with fail
        refine (tagOf_any _ _ _ l bs _ _ hT Hn.out hm).mono ?_
        rintro e w1 ⟨rfl, b1⟩
        rw [Ha.out]
        have B1 := b1
        go_wp2_with fail
        refine (tagOf_any _ _ _ l bs _ _ (hT.bel2 B1) Hn.out hm).mono ?_
        rintro e w2 ⟨rfl, b2⟩
        rw [Hh.out]
        have B2 := bel_step B1 b2
        go_wp2
        go_ret
        exact ⟨ret_num HR.out, B2⟩
  · have HR : Hid (0 = spdQ l kind) := show 0 = spdQ l kind by rw [HQ.out, spd_no a1 a2 rfl]
    go_enter Tryd.func7, Tryd.ntmps7
    go_wp2_with fail
    refine (tagOf_any _ _ _ l bs _ _ hT Hn.out hm).mono ?_
    rintro e w1 ⟨rfl, b1⟩
    rw [Ha.out]
    have B1 := b1
    go_wp2
    go_ret
    exact ⟨ret_num HR.out, B1⟩
  · have HR : Hid (0 = spdQ l kind) := show 0 = spdQ l kind by rw [HQ.out, spd_no a1 a2 rfl]
    go_enter Tryd.func7, Tryd.ntmps7
    go_wp2_with fail
    refine (tagOf_any _ _ _ l bs _ _ hT Hn.out hm).mono ?_
    rintro e w1 ⟨rfl, b1⟩
    rw [Ha.out]
    have B1 := b1
    go_wp2
    go_ret
    exact ⟨ret_num HR.out, B1⟩
  · have HR : Hid (0 = spdQ l kind) := show 0 = spdQ l kind by rw [HQ.out, spd_no a1 a2 rfl]
    go_enter Tryd.func7, Tryd.ntmps7
    go_wp2_with fail
    refine (tagOf_any _ _ _ l bs _ _ hT Hn.out hm).mono ?_
    rintro e w1 ⟨rfl, b1⟩
    rw [Ha.out]
    have B1 := b1
    go_wp2
    go_ret
    exact ⟨ret_num HR.out, B1⟩

set_option maxHeartbeats 2000000 in
theorem specSpeedOf_any (a : Option Addr) (n c : Nat) (l : List TagD) (bs : List Nat) (kind : Int) (w : World) (hT : Tags w a l bs) (hn : l.length = n) (hm : n ≤ 1048576) :
    Calls Tryd.prog 5 #[.slice a n c, .int .i64 kind] w fun e w' => e = .returned (.int .i64 (spdQ l kind)) ∧ Bel w w' := by
  have Hn : Hid (l.length = n) := hn
  clear hn
  obtain ⟨ac, Ha⟩ : ∃ o, Hid (tagOfL l ⟨#[97, 99, 99, 101, 115, 115]⟩ = o) := ⟨_, (rfl : tagOfL l ⟨#[97, 99, 99, 101, 115, 115]⟩ = _)⟩
  obtain ⟨hi, Hh⟩ : ∃ o, Hid (tagOfL l ⟨#[104, 105, 103, 104, 119, 97, 121]⟩ = o) := ⟨_, (rfl : tagOfL l ⟨#[104, 105, 103, 104, 119, 97, 121]⟩ = _)⟩
  obtain ⟨mx, Hm⟩ : ∃ o, Hid (tagOfL l ⟨#[109, 97, 120, 115, 112, 101, 101, 100]⟩ = o) := ⟨_, (rfl : tagOfL l ⟨#[109, 97, 120, 115, 112, 101, 101, 100]⟩ = _)⟩
  have hms : mx.size ≤ maxLen := by rw [← Hm.out]; exact tags_small hT _
  have HQ : Hid (spdQ l kind = spd ac hi mx kind) := show spdQ l kind = spd ac hi mx kind by unfold spdQ; rw [Ha.out, Hh.out, Hm.out]
  cases h0 : hi.toList.isEmpty
  · cases a1 : (ac.toList == [110, 111]) <;> cases a2 : (ac.toList == [112, 114, 105, 118, 97, 116, 101])
    · by_cases k1 : kind = 1
      · subst k1
        cases h1 : (hi.toList == [109, 111, 116, 111, 114, 119, 97, 121]) <;> cases h2 : (hi.toList == [109, 97, 105, 110]) <;> cases h3 : (hi.toList == [115, 116, 114, 101, 101, 116])
        · have HR : Hid (limQ 0 mx = spdQ l 1) := show limQ 0 mx = spdQ l 1 by rw [HQ.out, spd_yes a1 a2, if_pos rfl]; unfold carV; rw [h1, h2, h3]; rfl
          have HL : Hid (limQ 0 mx = if 1 ≤ l7Q mx 30 ∧ l7Q mx 30 < 0 then l7Q mx 30 else 0) := limQ_l7 (by omega) mx
          obtain ⟨q, Hq⟩ : ∃ q, Hid (l7Q mx 30 = q) := ⟨_, (rfl : l7Q mx 30 = _)⟩
          rw [Hq.out] at HL
          by_cases t1 : 1 ≤ q <;> by_cases t2 : q < 0
          · exfalso; omega
          · go_enter Tryd.func5, Tryd.ntmps5
            go_wp2_with fail
            refine (specTagOf_any _ _ _ l bs _ _ hT Hn.out hm).mono ?_
            rintro e w1 ⟨rfl, b1⟩
            rw [Hh.out]
            have B1 := b1
            go_wp2_with fail
            refine (specTagOf_any _ _ _ l bs _ _ (hT.bel2 B1) Hn.out hm).mono ?_
            rintro e w2 ⟨rfl, b2⟩
            rw [Ha.out]
            have B2 := bel_step B1 b2
            go_wp2_with fail
            refine (specTagOf_any _ _ _ l bs _ _ (hT.bel2 B2) Hn.out hm).mono ?_
            rintro e w3 ⟨rfl, b3⟩
            rw [Hm.out]
            have B3 := bel_step B2 b3
            go_wp2_with fail
            refine (l7Number_any _ _ _ hms).mono ?_
            rintro e w4 ⟨rfl, rfl⟩
            rw [Hq.out]
            go_wp2
            go_ret
            exact ⟨ret_num (by rw [← HR.out, HL.out, if_neg (by rintro ⟨x, y⟩; omega)]), B3⟩
          · go_enter Tryd.func5, Tryd.ntmps5
            go_wp2_with fail
            refine (specTagOf_any _ _ _ l bs _ _ hT Hn.out hm).mono ?_
            rintro e w1 ⟨rfl, b1⟩
            rw [Hh.out]
            have B1 := b1
            go_wp2_with fail
            refine (specTagOf_any _ _ _ l bs _ _ (hT.bel2 B1) Hn.out hm).mono ?_
            rintro e w2 ⟨rfl, b2⟩
            rw [Ha.out]
            have B2 := bel_step B1 b2
            go_wp2_with fail
            refine (specTagOf_any _ _ _ l bs _ _ (hT.bel2 B2) Hn.out hm).mono ?_
            rintro e w3 ⟨rfl, b3⟩
            rw [Hm.out]
            have B3 := bel_step B2 b3
            go_wp2_with fail
            refine (l7Number_any _ _ _ hms).mono ?_
            rintro e w4 ⟨rfl, rfl⟩
            rw [Hq.out]
            go_wp2
            go_ret
            exact ⟨ret_num (by rw [← HR.out, HL.out, if_neg (by rintro ⟨x, y⟩; omega)]), B3⟩
          · go_enter Tryd.func5, Tryd.ntmps5
            go_wp2_with fail
            refine (specTagOf_any _ _ _ l bs _ _ hT Hn.out hm).mono ?_
            rintro e w1 ⟨rfl, b1⟩
            rw [Hh.out]
            have B1 := b1
            go_wp2_with fail
            refine (specTagOf_any _ _ _ l bs _ _ (hT.bel2 B1) Hn.out hm).mono ?_
            rintro e w2 ⟨rfl, b2⟩
            rw [Ha.out]
            have B2 := bel_step B1 b2
            go_wp2_with fail
            refine (specTagOf_any _ _ _ l bs _ _ (hT.bel2 B2) Hn.out hm).mono ?_
            rintro e w3 ⟨rfl, b3⟩
            rw [Hm.out]
            have B3 := bel_step B2 b3
            go_wp2_with fail
            refine (l7Number_any _ _ _ hms).mono ?_
            rintro e w4 ⟨rfl, rfl⟩
            rw [Hq.out]
            go_wp2
            go_ret
            exact ⟨ret_num (by rw [← HR.out, HL.out, if_neg (by rintro ⟨x, y⟩; omega)]), B3⟩
        · have HR : Hid (limQ 10 mx = spdQ l 1) := show limQ 10 mx = spdQ l 1 by rw [HQ.out, spd_yes a1 a2, if_pos rfl]; unfold carV; rw [h1, h2, h3]; rfl
          have HL : Hid (limQ 10 mx = if 1 ≤ l7Q mx 30 ∧ l7Q mx 30 < 10 then l7Q mx 30 else 10) := limQ_l7 (by omega) mx
          obtain ⟨q, Hq⟩ : ∃ q, Hid (l7Q mx 30 = q) := ⟨_, (rfl : l7Q mx 30 = _)⟩
          rw [Hq.out] at HL
          by_cases t1 : 1 ≤ q <;> by_cases t2 : q < 10
          · go_enter Tryd.func5, Tryd.ntmps5
            go_wp2_with fail
            refine (specTagOf_any _ _ _ l bs _ _ hT Hn.out hm).mono ?_
            rintro e w1 ⟨rfl, b1⟩
            rw [Hh.out]
            have B1 := b1
            go_wp2_with fail
            refine (specTagOf_any _ _ _ l bs _ _ (hT.bel2 B1) Hn.out hm).mono ?_
            rintro e w2 ⟨rfl, b2⟩
            rw [Ha.out]
            have B2 := bel_step B1 b2
            go_wp2_with fail
            refine (specTagOf_any _ _ _ l bs _ _ (hT.bel2 B2) Hn.out hm).mono ?_
            rintro e w3 ⟨rfl, b3⟩
            rw [Hm.out]
            have B3 := bel_step B2 b3
            go_wp2_with fail
            refine (l7Number_any _ _ _ hms).mono ?_
            rintro e w4 ⟨rfl, rfl⟩
            rw [Hq.out]
            go_wp2
            go_ret
            exact ⟨ret_num (by rw [← HR.out, HL.out, if_pos ⟨t1, t2⟩]), B3⟩
          · go_enter Tryd.func5, Tryd.ntmps5
            go_wp2_with fail
            refine (specTagOf_any _ _ _ l bs _ _ hT Hn.out hm).mono ?_
            rintro e w1 ⟨rfl, b1⟩
            rw [Hh.out]
            have B1 := b1
            go_wp2_with fail
            refine (specTagOf_any _ _ _ l bs _ _ (hT.bel2 B1) Hn.out hm).mono ?_
            rintro e w2 ⟨rfl, b2⟩
            rw [Ha.out]
            have B2 := bel_step B1 b2
            go_wp2_with fail
            refine (specTagOf_any _ _ _ l bs _ _ (hT.bel2 B2) Hn.out hm).mono ?_
            rintro e w3 ⟨rfl, b3⟩
            rw [Hm.out]
            have B3 := bel_step B2 b3
            go_wp2_with fail
            refine (l7Number_any _ _ _ hms).mono ?_
            rintro e w4 ⟨rfl, rfl⟩
            rw [Hq.out]
            go_wp2
            go_ret
            exact ⟨ret_num (by rw [← HR.out, HL.out, if_neg (by rintro ⟨x, y⟩; omega)]), B3⟩
          · go_enter Tryd.func5, Tryd.ntmps5
            go_wp2_with fail
            refine (specTagOf_any _ _ _ l bs _ _ hT Hn.out hm).mono ?_
            rintro e w1 ⟨rfl, b1⟩
            rw [Hh.out]
            have B1 := b1
            go_wp2_with fail
            refine (specTagOf_any _ _ _ l bs _ _ (hT.bel2 B1) Hn.out hm).mono ?_
            rintro e w2 ⟨rfl, b2⟩
            rw [Ha.out]
            have B2 := bel_step B1 b2
            go_wp2_with fail
            refine (specTagOf_any _ _ _ l bs _ _ (hT.bel2 B2) Hn.out hm).mono ?_
            rintro e w3 ⟨rfl, b3⟩
            rw [Hm.out]
            have B3 := bel_step B2 b3
            go_wp2_with fail
            refine (l7Number_any _ _ _ hms).mono ?_
            rintro e w4 ⟨rfl, rfl⟩
            rw [Hq.out]
            go_wp2
            go_ret
            exact ⟨ret_num (by rw [← HR.out, HL.out, if_neg (by rintro ⟨x, y⟩; omega)]), B3⟩
          · exfalso; omega
        · have HR : Hid (limQ 20 mx = spdQ l 1) := show limQ 20 mx = spdQ l 1 by rw [HQ.out, spd_yes a1 a2, if_pos rfl]; unfold carV; rw [h1, h2, h3]; rfl
          have HL : Hid (limQ 20 mx = if 1 ≤ l7Q mx 30 ∧ l7Q mx 30 < 20 then l7Q mx 30 else 20) := limQ_l7 (by omega) mx
          obtain ⟨q, Hq⟩ : ∃ q, Hid (l7Q mx 30 = q) := ⟨_, (rfl : l7Q mx 30 = _)⟩
          rw [Hq.out] at HL
          by_cases t1 : 1 ≤ q <;> by_cases t2 : q < 20
          · go_enter Tryd.func5, Tryd.ntmps5
            go_wp2_with fail
            refine (specTagOf_any _ _ _ l bs _ _ hT Hn.out hm).mono ?_
            rintro e w1 ⟨rfl, b1⟩
            rw [Hh.out]
            have B1 := b1
            go_wp2_with fail
            refine (specTagOf_any _ _ _ l bs _ _ (hT.bel2 B1) Hn.out hm).mono ?_
            rintro e w2 ⟨rfl, b2⟩
            rw [Ha.out]
            have B2 := bel_step B1 b2
            go_wp2_with fail
            refine (specTagOf_any _ _ _ l bs _ _ (hT.bel2 B2) Hn.out hm).mono ?_
            rintro e w3 ⟨rfl, b3⟩
            rw [Hm.out]
            have B3 := bel_step B2 b3
            go_wp2_with fail
            refine (l7Number_any _ _ _ hms).mono ?_
            rintro e w4 ⟨rfl, rfl⟩
            rw [Hq.out]
            go_wp2
            go_ret
            exact ⟨ret_num (by rw [← HR.out, HL.out, if_pos ⟨t1, t2⟩]), B3⟩
          · go_enter Tryd.func5, Tryd.ntmps5
            go_wp2_with fail
            refine (specTagOf_any _ _ _ l bs _ _ hT Hn.out hm).mono ?_
            rintro e w1 ⟨rfl, b1⟩
            rw [Hh.out]
            have B1 := b1
            go_wp2_with fail
            refine (specTagOf_any _ _ _ l bs _ _ (hT.bel2 B1) Hn.out hm).mono ?_
            rintro e w2 ⟨rfl, b2⟩
            rw [Ha.out]
            have B2 := bel_step B1 b2
            go_wp2_with fail
            refine (specTagOf_any _ _ _ l bs _ _ (hT.bel2 B2) Hn.out hm).mono ?_
            rintro e w3 ⟨rfl, b3⟩
            rw [Hm.out]
            have B3 := bel_step B2 b3
            go_wp2_with fail
            refine (l7Number_any _ _ _ hms).mono ?_
            rintro e w4 ⟨rfl, rfl⟩
            rw [Hq.out]
            go_wp2
            go_ret
            exact ⟨ret_num (by rw [← HR.out, HL.out, if_neg (by rintro ⟨x, y⟩; omega)]), B3⟩
          · go_enter Tryd.func5, Tryd.ntmps5
            go_wp2_with fail
            refine (specTagOf_any _ _ _ l bs _ _ hT Hn.out hm).mono ?_
            rintro e w1 ⟨rfl, b1⟩
            rw [Hh.out]
            have B1 := b1
            go_wp2_with fail
            refine (specTagOf_any _ _ _ l bs _ _ (hT.bel2 B1) Hn.out hm).mono ?_
            rintro e w2 ⟨rfl, b2⟩
            rw [Ha.out]
            have B2 := bel_step B1 b2
            go_wp2_with fail
            refine (specTagOf_any _ _ _ l bs _ _ (hT.bel2 B2) Hn.out hm).mono ?_
            rintro e w3 ⟨rfl, b3⟩
            rw [Hm.out]
            have B3 := bel_step B2 b3
            go_wp2_with fail
            refine (l7Number_any _ _ _ hms).mono ?_
            rintro e w4 ⟨rfl, rfl⟩
            rw [Hq.out]
            go_wp2
            go_ret
            exact ⟨ret_num (by rw [← HR.out, HL.out, if_neg (by rintro ⟨x, y⟩; omega)]), B3⟩
          · exfalso; omega
        · have HR : Hid (limQ 20 mx = spdQ l 1) := show limQ 20 mx = spdQ l 1 by rw [HQ.out, spd_yes a1 a2, if_pos rfl]; unfold carV; rw [h1, h2, h3]; rfl
          have HL : Hid (limQ 20 mx = if 1 ≤ l7Q mx 30 ∧ l7Q mx 30 < 20 then l7Q mx 30 else 20) := limQ_l7 (by omega) mx
          obtain ⟨q, Hq⟩ : ∃ q, Hid (l7Q mx 30 = q) := ⟨_, (rfl : l7Q mx 30 = _)⟩
          rw [Hq.out] at HL
          by_cases t1 : 1 ≤ q <;> by_cases t2 : q < 20
          · go_enter Tryd.func5, Tryd.ntmps5
            go_wp2_with fail
            refine (specTagOf_any _ _ _ l bs _ _ hT Hn.out hm).mono ?_
            rintro e w1 ⟨rfl, b1⟩
            rw [Hh.out]
            have B1 := b1
            go_wp2_with fail
            refine (specTagOf_any _ _ _ l bs _ _ (hT.bel2 B1) Hn.out hm).mono ?_
            rintro e w2 ⟨rfl, b2⟩
            rw [Ha.out]
            have B2 := bel_step B1 b2
            go_wp2_with fail
            refine (specTagOf_any _ _ _ l bs _ _ (hT.bel2 B2) Hn.out hm).mono ?_
            rintro e w3 ⟨rfl, b3⟩
            rw [Hm.out]
            have B3 := bel_step B2 b3
            go_wp2_with fail
            refine (l7Number_any _ _ _ hms).mono ?_
            rintro e w4 ⟨rfl, rfl⟩
            rw [Hq.out]
            go_wp2
            go_ret
            exact ⟨ret_num (by rw [← HR.out, HL.out, if_pos ⟨t1, t2⟩]), B3⟩
          · go_enter Tryd.func5, Tryd.ntmps5
            go_wp2_with fail
            refine (specTagOf_any _ _ _ l bs _ _ hT Hn.out hm).mono ?_
            rintro e w1 ⟨rfl, b1⟩
            rw [Hh.out]
            have B1 := b1
            go_wp2_with fail
            refine (specTagOf_any _ _ _ l bs _ _ (hT.bel2 B1) Hn.out hm).mono ?_
            rintro e w2 ⟨rfl, b2⟩
            rw [Ha.out]
            have B2 := bel_step B1 b2
            go_wp2_with fail
            refine (specTagOf_any _ _ _ l bs _ _ (hT.bel2 B2) Hn.out hm).mono ?_
            rintro e w3 ⟨rfl, b3⟩
            rw [Hm.out]
            have B3 := bel_step B2 b3
            go_wp2_with fail
            refine (l7Number_any _ _ _ hms).mono ?_
            rintro e w4 ⟨rfl, rfl⟩
            rw [Hq.out]
            go_wp2
            go_ret
            exact ⟨ret_num (by rw [← HR.out, HL.out, if_neg (by rintro ⟨x, y⟩; omega)]), B3⟩
          · go_enter Tryd.func5, Tryd.ntmps5
            go_wp2_with fail
            refine (specTagOf_any _ _ _ l bs _ _ hT Hn.out hm).mono ?_
            rintro e w1 ⟨rfl, b1⟩
            rw [Hh.out]
            have B1 := b1
            go_wp2_with fail
            refine (specTagOf_any _ _ _ l bs _ _ (hT.bel2 B1) Hn.out hm).mono ?_
            rintro e w2 ⟨rfl, b2⟩
            rw [Ha.out]
            have B2 := bel_step B1 b2
            go_wp2_with fail
            refine (specTagOf_any _ _ _ l bs _ _ (hT.bel2 B2) Hn.out hm).mono ?_
            rintro e w3 ⟨rfl, b3⟩
            rw [Hm.out]
            have B3 := bel_step B2 b3
            go_wp2_with fail
            refine (l7Number_any _ _ _ hms).mono ?_
            rintro e w4 ⟨rfl, rfl⟩
            rw [Hq.out]
            go_wp2
            go_ret
            exact ⟨ret_num (by rw [← HR.out, HL.out, if_neg (by rintro ⟨x, y⟩; omega)]), B3⟩
          · exfalso; omega
        · have HR : Hid (limQ 30 mx = spdQ l 1) := show limQ 30 mx = spdQ l 1 by rw [HQ.out, spd_yes a1 a2, if_pos rfl]; unfold carV; rw [h1, h2, h3]; rfl
          have HL : Hid (limQ 30 mx = if 1 ≤ l7Q mx 30 ∧ l7Q mx 30 < 30 then l7Q mx 30 else 30) := limQ_l7 (by omega) mx
          obtain ⟨q, Hq⟩ : ∃ q, Hid (l7Q mx 30 = q) := ⟨_, (rfl : l7Q mx 30 = _)⟩
          rw [Hq.out] at HL
          by_cases t1 : 1 ≤ q <;> by_cases t2 : q < 30
          · go_enter Tryd.func5, Tryd.ntmps5
            go_wp2_with fail
            refine (specTagOf_any _ _ _ l bs _ _ hT Hn.out hm).mono ?_
            rintro e w1 ⟨rfl, b1⟩
            rw [Hh.out]
            have B1 := b1
            go_wp2_with fail
            refine (specTagOf_any _ _ _ l bs _ _ (hT.bel2 B1) Hn.out hm).mono ?_
            rintro e w2 ⟨rfl, b2⟩
            rw [Ha.out]
            have B2 := bel_step B1 b2
            go_wp2_with fail
            refine (specTagOf_any _ _ _ l bs _ _ (hT.bel2 B2) Hn.out hm).mono ?_
            rintro e w3 ⟨rfl, b3⟩
            rw [Hm.out]
            have B3 := bel_step B2 b3
            go_wp2_with fail
            refine (l7Number_any _ _ _ hms).mono ?_
            rintro e w4 ⟨rfl, rfl⟩
            rw [Hq.out]
            go_wp2
            go_ret
            exact ⟨ret_num (by rw [← HR.out, HL.out, if_pos ⟨t1, t2⟩]), B3⟩
          · go_enter Tryd.func5, Tryd.ntmps5
            go_wp2_with fail
            refine (specTagOf_any _ _ _ l bs _ _ hT Hn.out hm).mono ?_
            rintro e w1 ⟨rfl, b1⟩
            rw [Hh.out]
            have B1 := b1
            go_wp2_with fail
            refine (specTagOf_any _ _ _ l bs _ _ (hT.bel2 B1) Hn.out hm).mono ?_
            rintro e w2 ⟨rfl, b2⟩
            rw [Ha.out]
            have B2 := bel_step B1 b2
            go_wp2_with fail
            refine (specTagOf_any _ _ _ l bs _ _ (hT.bel2 B2) Hn.out hm).mono ?_
            rintro e w3 ⟨rfl, b3⟩
            rw [Hm.out]
            have B3 := bel_step B2 b3
            go_wp2_with fail
            refine (l7Number_any _ _ _ hms).mono ?_
            rintro e w4 ⟨rfl, rfl⟩
            rw [Hq.out]
            go_wp2
            go_ret
            exact ⟨ret_num (by rw [← HR.out, HL.out, if_neg (by rintro ⟨x, y⟩; omega)]), B3⟩
          · go_enter Tryd.func5, Tryd.ntmps5
            go_wp2_with fail
            refine (specTagOf_any _ _ _ l bs _ _ hT Hn.out hm).mono ?_
            rintro e w1 ⟨rfl, b1⟩
            rw [Hh.out]
            have B1 := b1
            go_wp2_with fail
            refine (specTagOf_any _ _ _ l bs _ _ (hT.bel2 B1) Hn.out hm).mono ?_
            rintro e w2 ⟨rfl, b2⟩
            rw [Ha.out]
            have B2 := bel_step B1 b2
            go_wp2_with fail
            refine (specTagOf_any _ _ _ l bs _ _ (hT.bel2 B2) Hn.out hm).mono ?_
            rintro e w3 ⟨rfl, b3⟩
            rw [Hm.out]
            have B3 := bel_step B2 b3
            go_wp2_with fail
            refine (l7Number_any _ _ _ hms).mono ?_
            rintro e w4 ⟨rfl, rfl⟩
            rw [Hq.out]
            go_wp2
            go_ret
            exact ⟨ret_num (by rw [← HR.out, HL.out, if_neg (by rintro ⟨x, y⟩; omega)]), B3⟩
          · exfalso; omega
        · have HR : Hid (limQ 30 mx = spdQ l 1) := show limQ 30 mx = spdQ l 1 by rw [HQ.out, spd_yes a1 a2, if_pos rfl]; unfold carV; rw [h1, h2, h3]; rfl
          have HL : Hid (limQ 30 mx = if 1 ≤ l7Q mx 30 ∧ l7Q mx 30 < 30 then l7Q mx 30 else 30) := limQ_l7 (by omega) mx
          obtain ⟨q, Hq⟩ : ∃ q, Hid (l7Q mx 30 = q) := ⟨_, (rfl : l7Q mx 30 = _)⟩
          rw [Hq.out] at HL
          by_cases t1 : 1 ≤ q <;> by_cases t2 : q < 30
          · go_enter Tryd.func5, Tryd.ntmps5
            go_wp2_with fail
            refine (specTagOf_any _ _ _ l bs _ _ hT Hn.out hm).mono ?_
            rintro e w1 ⟨rfl, b1⟩
            rw [Hh.out]
            have B1 := b1
            go_wp2_with fail
            refine (specTagOf_any _ _ _ l bs _ _ (hT.bel2 B1) Hn.out hm).mono ?_
            rintro e w2 ⟨rfl, b2⟩
            rw [Ha.out]
            have B2 := bel_step B1 b2
            go_wp2_with fail
            refine (specTagOf_any _ _ _ l bs _ _ (hT.bel2 B2) Hn.out hm).mono ?_
            rintro e w3 ⟨rfl, b3⟩
            rw [Hm.out]
            have B3 := bel_step B2 b3
            go_wp2_with fail
            refine (l7Number_any _ _ _ hms).mono ?_
            rintro e w4 ⟨rfl, rfl⟩
            rw [Hq.out]
            go_wp2
            go_ret
            exact ⟨ret_num (by rw [← HR.out, HL.out, if_pos ⟨t1, t2⟩]), B3⟩
          · go_enter Tryd.func5, Tryd.ntmps5
            go_wp2_with fail
            refine (specTagOf_any _ _ _ l bs _ _ hT Hn.out hm).mono ?_
            rintro e w1 ⟨rfl, b1⟩
            rw [Hh.out]
            have B1 := b1
            go_wp2_with fail
            refine (specTagOf_any _ _ _ l bs _ _ (hT.bel2 B1) Hn.out hm).mono ?_
            rintro e w2 ⟨rfl, b2⟩
            rw [Ha.out]
            have B2 := bel_step B1 b2
            go_wp2_with fail
            refine (specTagOf_any _ _ _ l bs _ _ (hT.bel2 B2) Hn.out hm).mono ?_
            rintro e w3 ⟨rfl, b3⟩
            rw [Hm.out]
            have B3 := bel_step B2 b3
            go_wp2_with fail
            refine (l7Number_any _ _ _ hms).mono ?_
            rintro e w4 ⟨rfl, rfl⟩
            rw [Hq.out]
            go_wp2
            go_ret
            exact ⟨ret_num (by rw [← HR.out, HL.out, if_neg (by rintro ⟨x, y⟩; omega)]), B3⟩
          · go_enter Tryd.func5, Tryd.ntmps5
            go_wp2_with fail
            refine (specTagOf_any _ _ _ l bs _ _ hT Hn.out hm).mono ?_
            rintro e w1 ⟨rfl, b1⟩
            rw [Hh.out]
            have B1 := b1
            go_wp2_with fail
            refine (specTagOf_any _ _ _ l bs _ _ (hT.bel2 B1) Hn.out hm).mono ?_
            rintro e w2 ⟨rfl, b2⟩
            rw [Ha.out]
            have B2 := bel_step B1 b2
            go_wp2_with fail
            refine (specTagOf_any _ _ _ l bs _ _ (hT.bel2 B2) Hn.out hm).mono ?_
            rintro e w3 ⟨rfl, b3⟩
            rw [Hm.out]
            have B3 := bel_step B2 b3
            go_wp2_with fail
            refine (l7Number_any _ _ _ hms).mono ?_
            rintro e w4 ⟨rfl, rfl⟩
            rw [Hq.out]
            go_wp2
            go_ret
            exact ⟨ret_num (by rw [← HR.out, HL.out, if_neg (by rintro ⟨x, y⟩; omega)]), B3⟩
          · exfalso; omega
        · have HR : Hid (limQ 30 mx = spdQ l 1) := show limQ 30 mx = spdQ l 1 by rw [HQ.out, spd_yes a1 a2, if_pos rfl]; unfold carV; rw [h1, h2, h3]; rfl
          have HL : Hid (limQ 30 mx = if 1 ≤ l7Q mx 30 ∧ l7Q mx 30 < 30 then l7Q mx 30 else 30) := limQ_l7 (by omega) mx
          obtain ⟨q, Hq⟩ : ∃ q, Hid (l7Q mx 30 = q) := ⟨_, (rfl : l7Q mx 30 = _)⟩
          rw [Hq.out] at HL
          by_cases t1 : 1 ≤ q <;> by_cases t2 : q < 30
          · go_enter Tryd.func5, Tryd.ntmps5
            go_wp2_with fail
            refine (specTagOf_any _ _ _ l bs _ _ hT Hn.out hm).mono ?_
            rintro e w1 ⟨rfl, b1⟩
            rw [Hh.out]
            have B1 := b1
            go_wp2_with fail
            refine (specTagOf_any _ _ _ l bs _ _ (hT.bel2 B1) Hn.out hm).mono ?_
            rintro e w2 ⟨rfl, b2⟩
            rw [Ha.out]
            have B2 := bel_step B1 b2
            go_wp2_with fail
            refine (specTagOf_any _ _ _ l bs _ _ (hT.bel2 B2) Hn.out hm).mono ?_
            rintro e w3 ⟨rfl, b3⟩
            rw [Hm.out]
            have B3 := bel_step B2 b3
            go_wp2_with fail
            refine (l7Number_any _ _ _ hms).mono ?_
            rintro e w4 ⟨rfl, rfl⟩
            rw [Hq.out]
            go_wp2
            go_ret
            exact ⟨ret_num (by rw [← HR.out, HL.out, if_pos ⟨t1, t2⟩]), B3⟩
          · go_enter Tryd.func5, Tryd.ntmps5
            go_wp2_with fail
            refine (specTagOf_any _ _ _ l bs _ _ hT Hn.out hm).mono ?_
            rintro e w1 ⟨rfl, b1⟩
            rw [Hh.out]
            have B1 := b1
            go_wp2_with fail
            refine (specTagOf_any _ _ _ l bs _ _ (hT.bel2 B1) Hn.out hm).mono ?_
            rintro e w2 ⟨rfl, b2⟩
            rw [Ha.out]
            have B2 := bel_step B1 b2
            go_wp2_with fail
            refine (specTagOf_any _ _ _ l bs _ _ (hT.bel2 B2) Hn.out hm).mono ?_
            rintro e w3 ⟨rfl, b3⟩
            rw [Hm.out]
            have B3 := bel_step B2 b3
            go_wp2_with fail
            refine (l7Number_any _ _ _ hms).mono ?_
            rintro e w4 ⟨rfl, rfl⟩
            rw [Hq.out]
            go_wp2
            go_ret
            exact ⟨ret_num (by rw [← HR.out, HL.out, if_neg (by rintro ⟨x, y⟩; omega)]), B3⟩
          · go_enter Tryd.func5, Tryd.ntmps5
            go_wp2_with fail
            refine (specTagOf_any _ _ _ l bs _ _ hT Hn.out hm).mono ?_
            rintro e w1 ⟨rfl, b1⟩
            rw [Hh.out]
            have B1 := b1
            go_wp2_with fail
            refine (specTagOf_any _ _ _ l bs _ _ (hT.bel2 B1) Hn.out hm).mono ?_
            rintro e w2 ⟨rfl, b2⟩
            rw [Ha.out]
            have B2 := bel_step B1 b2
            go_wp2_with fail
            refine (specTagOf_any _ _ _ l bs _ _ (hT.bel2 B2) Hn.out hm).mono ?_
            rintro e w3 ⟨rfl, b3⟩
            rw [Hm.out]
            have B3 := bel_step B2 b3
            go_wp2_with fail
            refine (l7Number_any _ _ _ hms).mono ?_
            rintro e w4 ⟨rfl, rfl⟩
            rw [Hq.out]
            go_wp2
            go_ret
            exact ⟨ret_num (by rw [← HR.out, HL.out, if_neg (by rintro ⟨x, y⟩; omega)]), B3⟩
          · exfalso; omega
        · have HR : Hid (limQ 30 mx = spdQ l 1) := show limQ 30 mx = spdQ l 1 by rw [HQ.out, spd_yes a1 a2, if_pos rfl]; unfold carV; rw [h1, h2, h3]; rfl
          have HL : Hid (limQ 30 mx = if 1 ≤ l7Q mx 30 ∧ l7Q mx 30 < 30 then l7Q mx 30 else 30) := limQ_l7 (by omega) mx
          obtain ⟨q, Hq⟩ : ∃ q, Hid (l7Q mx 30 = q) := ⟨_, (rfl : l7Q mx 30 = _)⟩
          rw [Hq.out] at HL
          by_cases t1 : 1 ≤ q <;> by_cases t2 : q < 30
          · go_enter Tryd.func5, Tryd.ntmps5
            go_wp2_with fail
            refine (specTagOf_any _ _ _ l bs _ _ hT Hn.out hm).mono ?_
            rintro e w1 ⟨rfl, b1⟩
            rw [Hh.out]
            have B1 := b1
            go_wp2_with fail
            refine (specTagOf_any _ _ _ l bs _ _ (hT.bel2 B1) Hn.out hm).mono ?_
            rintro e w2 ⟨rfl, b2⟩
            rw [Ha.out]
            have B2 := bel_step B1 b2
            go_wp2_with fail
            refine (specTagOf_any _ _ _ l bs _ _ (hT.bel2 B2) Hn.out hm).mono ?_
            rintro e w3 ⟨rfl, b3⟩
            rw [Hm.out]
            have B3 := bel_step B2 b3
            go_wp2_with fail
            refine (l7Number_any _ _ _ hms).mono ?_
            rintro e w4 ⟨rfl, rfl⟩
            rw [Hq.out]
            go_wp2
            go_ret
            exact ⟨ret_num (by rw [← HR.out, HL.out, if_pos ⟨t1, t2⟩]), B3⟩
          · go_enter Tryd.func5, Tryd.ntmps5
            go_wp2_with fail
            refine (specTagOf_any _ _ _ l bs _ _ hT Hn.out hm).mono ?_
            rintro e w1 ⟨rfl, b1⟩
            rw [Hh.out]
            have B1 := b1
            go_wp2_with fail
            refine (specTagOf_any _ _ _ l bs _ _ (hT.bel2 B1) Hn.out hm).mono ?_
            rintro e w2 ⟨rfl, b2⟩
            rw [Ha.out]
            have B2 := bel_step B1 b2
            go_wp2_with fail
            refine (specTagOf_any _ _ _ l bs _ _ (hT.bel2 B2) Hn.out hm).mono ?_
            rintro e w3 ⟨rfl, b3⟩
            rw [Hm.out]
            have B3 := bel_step B2 b3
            go_wp2_with fail
            refine (l7Number_any _ _ _ hms).mono ?_
            rintro e w4 ⟨rfl, rfl⟩
            rw [Hq.out]
            go_wp2
            go_ret
            exact ⟨ret_num (by rw [← HR.out, HL.out, if_neg (by rintro ⟨x, y⟩; omega)]), B3⟩
          · go_enter Tryd.func5, Tryd.ntmps5
            go_wp2_with fail
            refine (specTagOf_any _ _ _ l bs _ _ hT Hn.out hm).mono ?_
            rintro e w1 ⟨rfl, b1⟩
            rw [Hh.out]
            have B1 := b1
            go_wp2_with fail
            refine (specTagOf_any _ _ _ l bs _ _ (hT.bel2 B1) Hn.out hm).mono ?_
            rintro e w2 ⟨rfl, b2⟩
            rw [Ha.out]
            have B2 := bel_step B1 b2
            go_wp2_with fail
            refine (specTagOf_any _ _ _ l bs _ _ (hT.bel2 B2) Hn.out hm).mono ?_
            rintro e w3 ⟨rfl, b3⟩
            rw [Hm.out]
            have B3 := bel_step B2 b3
            go_wp2_with fail
            refine (l7Number_any _ _ _ hms).mono ?_
            rintro e w4 ⟨rfl, rfl⟩
            rw [Hq.out]
            go_wp2
            go_ret
            exact ⟨ret_num (by rw [← HR.out, HL.out, if_neg (by rintro ⟨x, y⟩; omega)]), B3⟩
          · exfalso; omega
      · by_cases k2 : kind = 2
        · subst k2
          cases h1 : (hi.toList == [109, 111, 116, 111, 114, 119, 97, 121])
          · have HR : Hid (1 = spdQ l 2) := show 1 = spdQ l 2 by rw [HQ.out, spd_yes a1 a2, if_neg (by decide), if_pos rfl]; unfold footV; rw [h0, h1]; rfl
            go_enter Tryd.func5, Tryd.ntmps5
            go_wp2_with fail
            refine (specTagOf_any _ _ _ l bs _ _ hT Hn.out hm).mono ?_
            rintro e w1 ⟨rfl, b1⟩
            rw [Hh.out]
            have B1 := b1
            go_wp2_with fail
            refine (specTagOf_any _ _ _ l bs _ _ (hT.bel2 B1) Hn.out hm).mono ?_
            rintro e w2 ⟨rfl, b2⟩
            rw [Ha.out]
            have B2 := bel_step B1 b2
            go_wp2
            go_ret
            exact ⟨ret_num HR.out, B2⟩
          · have HR : Hid (0 = spdQ l 2) := show 0 = spdQ l 2 by rw [HQ.out, spd_yes a1 a2, if_neg (by decide), if_pos rfl]; unfold footV; rw [h0, h1]; rfl
            go_enter Tryd.func5, Tryd.ntmps5
            go_wp2_with fail
            refine (specTagOf_any _ _ _ l bs _ _ hT Hn.out hm).mono ?_
            rintro e w1 ⟨rfl, b1⟩
            rw [Hh.out]
            have B1 := b1
            go_wp2_with fail
            refine (specTagOf_any _ _ _ l bs _ _ (hT.bel2 B1) Hn.out hm).mono ?_
            rintro e w2 ⟨rfl, b2⟩
            rw [Ha.out]
            have B2 := bel_step B1 b2
            go_wp2
            go_ret
            exact ⟨ret_num HR.out, B2⟩
        · have HR : Hid (0 = spdQ l kind) := show 0 = spdQ l kind by rw [HQ.out, spd_yes a1 a2, if_neg k1, if_neg k2]
          go_enter Tryd.func5, Tryd.ntmps5
          go_wp2_with fail
          refine (specTagOf_any _ _ _ l bs _ _ hT Hn.out hm).mono ?_
          rintro e w1 ⟨rfl, b1⟩
          rw [Hh.out]
          have B1 := b1
          go_wp2_with fail
          refine (specTagOf_any _ _ _ l bs _ _ (hT.bel2 B1) Hn.out hm).mono ?_
          rintro e w2 ⟨rfl, b2⟩
          rw [Ha.out]
          have B2 := bel_step B1 b2
          go_wp2
          go_ret
          exact ⟨ret_num HR.out, B2⟩
    · have HR : Hid (0 = spdQ l kind) := show 0 = spdQ l kind by rw [HQ.out, spd_no a1 a2 rfl]
      go_enter Tryd.func5, Tryd.ntmps5
      go_wp2_with fail
      refine (specTagOf_any _ _ _ l bs _ _ hT Hn.out hm).mono ?_
      rintro e w1 ⟨rfl, b1⟩
      rw [Hh.out]
      have B1 := b1
      go_wp2_with fail
      refine (specTagOf_any _ _ _ l bs _ _ (hT.bel2 B1) Hn.out hm).mono ?_
      rintro e w2 ⟨rfl, b2⟩
      rw [Ha.out]
      have B2 := bel_step B1 b2
      go_wp2
      go_ret
      exact ⟨ret_num HR.out, B2⟩
    · have HR : Hid (0 = spdQ l kind) := show 0 = spdQ l kind by rw [HQ.out, spd_no a1 a2 rfl]
      go_enter Tryd.func5, Tryd.ntmps5
      go_wp2_with fail
      refine (specTagOf_any _ _ _ l bs _ _ hT Hn.out hm).mono ?_
      rintro e w1 ⟨rfl, b1⟩
      rw [Hh.out]
      have B1 := b1
      go_wp2_with fail
      refine (specTagOf_any _ _ _ l bs _ _ (hT.bel2 B1) Hn.out hm).mono ?_
      rintro e w2 ⟨rfl, b2⟩
      rw [Ha.out]
      have B2 := bel_step B1 b2
      go_wp2
      go_ret
      exact ⟨ret_num HR.out, B2⟩
    · have HR : Hid (0 = spdQ l kind) := show 0 = spdQ l kind by rw [HQ.out, spd_no a1 a2 rfl]
      go_enter Tryd.func5, Tryd.ntmps5
      go_wp2_with fail
      refine (specTagOf_any _ _ _ l bs _ _ hT Hn.out hm).mono ?_
      rintro e w1 ⟨rfl, b1⟩
      rw [Hh.out]
      have B1 := b1
      go_wp2_with fail
      refine (specTagOf_any _ _ _ l bs _ _ (hT.bel2 B1) Hn.out hm).mono ?_
      rintro e w2 ⟨rfl, b2⟩
      rw [Ha.out]
      have B2 := bel_step B1 b2
      go_wp2
      go_ret
      exact ⟨ret_num HR.out, B2⟩
  · have HR : Hid (0 = spdQ l kind) := show 0 = spdQ l kind by rw [HQ.out, spd_empty h0]
    go_enter Tryd.func5, Tryd.ntmps5
    go_wp2_with fail
    refine (specTagOf_any _ _ _ l bs _ _ hT Hn.out hm).mono ?_
    rintro e w1 ⟨rfl, b1⟩
    rw [Hh.out]
    have B1 := b1
    go_wp2_with fail
    refine (specTagOf_any _ _ _ l bs _ _ (hT.bel2 B1) Hn.out hm).mono ?_
    rintro e w2 ⟨rfl, b2⟩
    rw [Ha.out]
    have B2 := bel_step B1 b2
    go_wp2
    go_ret
    exact ⟨ret_num HR.out, B2⟩

end Go.Proofs.YtfdeccmkdhaodaaDoor
