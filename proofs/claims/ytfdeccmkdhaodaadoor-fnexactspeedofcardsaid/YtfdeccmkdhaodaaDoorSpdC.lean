/-
  numberOf, limited, carSpeed, footSpeed of the program; l7Number of its model.
-/
import Derived.Test.YtfdeccmkdhaodaaDoorSpdN
import Derived.Shelf.Strconv.ParseIntPublic10
import Derived.Shelf.Lay
import Derived.Lib.AtoiErrMem
import Derived.Ground.NamesProg
namespace Go.Proofs.YtfdeccmkdhaodaaDoor
open Go.RowKit Go.Shelf

shelf_lay LaysC.n174 Nm 174 at Tryd as laysPI
theorem parse_any (s : ByteArray) (h : textB db 10 s = true) (w : World) :
    Calls Tryd.prog 21 #[.string s, .int .i64 10, .int .i64 64] w fun e w' => e = .returned (.tuple #[.int .i64 (nmV s), .nilIface]) ∧ Bel w w' := by
  have h10 : s.size ≤ 10 := by have h' := h; simp only [textB, decide_eq_true_eq] at h'; exact h'.2.1
  refine (Any.strconv_ParseInt_10_at64_ok laysPI s (by omega) _ (parse_ok h) w).mono ?_
  rintro e w' ⟨rfl, hw | ⟨t, rfl⟩⟩
  · subst hw; exact ⟨rfl, Bel.refl _⟩
  · exact ⟨rfl, Lib.bytesWorld_below _ _ _⟩

theorem ret_nb {a b : Int} {c d : Bool} (h : a = b) (k : c = d) : Ending.returned (.tuple #[.int .i64 a, .bool c]) = .returned (.tuple #[.int .i64 b, .bool d]) := by rw [h, k]

set_option maxHeartbeats 1000000 in
theorem numberOf_any (s : ByteArray) (w : World) (hs : s.size ≤ maxLen) :
    Calls Tryd.prog 18 #[.string s] w fun e w' => e = .returned (.tuple #[.int .i64 (if textB db 10 s then nmV s else 0), .bool (textB db 10 s)]) ∧ Bel w w' := by
  cases ht : textB db 10 s
  · go_enter Tryd.func18, Tryd.ntmps18
    go_wp2_with fail
    refine (textDigit_any _ _ hs).mono ?_
    rintro e w1 ⟨rfl, rfl⟩
    rw [ht]
    go_wp2
    go_ret2
    exact ⟨ret_nb rfl rfl, Bel.refl _⟩
  · have HP := parse_any s ht
    have hlt := nmV_lt ht
    have hge := nmV_pos s
    obtain ⟨v, Hv⟩ : ∃ v, Hid (nmV s = v) := ⟨_, (rfl : nmV s = _)⟩
    rw [Hv.out] at hlt hge HP
    go_enter Tryd.func18, Tryd.ntmps18
    go_wp2_with fail
    refine (textDigit_any _ _ hs).mono ?_
    rintro e w1 ⟨rfl, rfl⟩
    rw [ht]
    go_wp2_with fail
    refine (HP _).mono ?_
    rintro e w2 ⟨rfl, hb2⟩
    go_wp2
    go_big_region
    go_wp2
    go_ret2
    exact ⟨ret_nb (by rw [Hv.out]) rfl, by first | exact hb2 | exact hb2.drew⟩

/-- What a limit makes of a speed. -/
def limQ (v : Int) (s : ByteArray) : Int := if textB db 10 s = true ∧ 1 ≤ nmV s ∧ nmV s < v then nmV s else v

set_option maxHeartbeats 1000000 in
theorem limited_any (v : Int) (s : ByteArray) (w : World) (hs : s.size ≤ maxLen) :
    Calls Tryd.prog 14 #[.int .i64 v, .string s] w fun e w' => e = .returned (.int .i64 (limQ v s)) ∧ Bel w w' := by
  cases ht : textB db 10 s
  · have HN := numberOf_any s w hs
    rw [ht] at HN
    have HQ : Hid (v = limQ v s) := show v = limQ v s by unfold limQ; rw [if_neg (by rw [ht]; rintro ⟨h, _⟩; cases h)]
    go_enter Tryd.func14, Tryd.ntmps14
    go_wp2_with fail
    refine HN.mono ?_
    rintro e w1 ⟨rfl, hb1⟩
    rw [if_neg (by decide)]
    go_wp2
    go_ret
    exact ⟨ret_num HQ.out, by first | exact hb1 | exact hb1.drew⟩
  · have HN := numberOf_any s w hs
    rw [ht, if_pos rfl] at HN
    obtain ⟨n, Hn⟩ : ∃ n, Hid (nmV s = n) := ⟨_, (rfl : nmV s = _)⟩
    rw [Hn.out] at HN
    by_cases h1 : 1 ≤ n <;> by_cases h2 : n < v
    · have HQ : Hid (n = limQ v s) := show n = limQ v s by unfold limQ; rw [Hn.out, if_pos ⟨ht, h1, h2⟩]
      go_enter Tryd.func14, Tryd.ntmps14
      go_wp2_with fail
      refine HN.mono ?_
      rintro e w1 ⟨rfl, hb1⟩
      go_wp2
      go_ret
      exact ⟨ret_num HQ.out, by first | exact hb1 | exact hb1.drew⟩
    all_goals
      have HQ : Hid (v = limQ v s) := show v = limQ v s by unfold limQ; rw [Hn.out, if_neg (by rintro ⟨_, a, b⟩; omega)]
      go_enter Tryd.func14, Tryd.ntmps14
      go_wp2_with fail
      refine HN.mono ?_
      rintro e w1 ⟨rfl, hb1⟩
      go_wp2
      go_ret
      exact ⟨ret_num HQ.out, by first | exact hb1 | exact hb1.drew⟩

def car3 (b1 b2 b3 : Bool) : Int := if b1 then 30 else if b2 then 20 else if b3 then 10 else 0
/-- A car's speed on a highway. -/
def carV (h : ByteArray) : Int := car3 (h.toList == [109, 111, 116, 111, 114, 119, 97, 121]) (h.toList == [109, 97, 105, 110]) (h.toList == [115, 116, 114, 101, 101, 116])
/-- A walker's. -/
def footV (h : ByteArray) : Int := if h.toList.isEmpty || (h.toList == [109, 111, 116, 111, 114, 119, 97, 121]) then 0 else 1

theorem carSpeed_any (h : ByteArray) (w : World) :
    Calls Tryd.prog 15 #[.string h] w fun e w' => e = .returned (.int .i64 (carV h)) ∧ w' = w := by
  cases h1 : (h.toList == [109, 111, 116, 111, 114, 119, 97, 121]) <;> cases h2 : (h.toList == [109, 97, 105, 110]) <;> cases h3 : (h.toList == [115, 116, 114, 101, 101, 116]) <;> (
    have HQ : Hid (carV h = car3 _ _ _) := show carV h = _ by unfold carV; rw [h1, h2, h3]
    go_enter Tryd.func15, Tryd.ntmps15
    go_wp2
    go_ret
    exact ⟨ret_num HQ.out.symm, rfl⟩)

theorem footSpeed_any (h : ByteArray) (w : World) :
    Calls Tryd.prog 16 #[.string h] w fun e w' => e = .returned (.int .i64 (footV h)) ∧ w' = w := by
  cases h1 : h.toList.isEmpty <;> cases h2 : (h.toList == [109, 111, 116, 111, 114, 119, 97, 121]) <;> (
    have HQ : Hid (footV h = if (_ : Bool) || (_ : Bool) then 0 else 1) := show footV h = _ by unfold footV; rw [h1, h2]
    go_enter Tryd.func16, Tryd.ntmps16
    go_wp2
    go_ret
    exact ⟨ret_num HQ.out.symm, rfl⟩)

end Go.Proofs.YtfdeccmkdhaodaaDoor
