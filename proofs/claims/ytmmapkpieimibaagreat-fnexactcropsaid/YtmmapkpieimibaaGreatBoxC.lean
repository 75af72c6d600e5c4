/-
  What lies in a box: the question for one point, for a row: contracts.
-/
import Derived.Test.YtmmapkpieimibaaGreatCropM
namespace Go.Proofs.YtmmapkpieimibaaGreat
open Go.RowKit Go.Maps

set_option maxHeartbeats 1000000 in
theorem holds_any (q : BoxD) (x y : Int) (w : World) :
    Calls Tryz.prog 86 #[.agg #[.int .i64 q.a, .int .i64 q.b, .int .i64 q.c, .int .i64 q.d], .agg #[.int .i64 x, .int .i64 y]] w fun e w' => e = .returned (.bool (ptB q x y)) ∧ Bel w w' := by
  have hB : Bel w ((w.alloc (.cells #[.int .i64 q.a, .int .i64 q.b, .int .i64 q.c, .int .i64 q.d] 41)).alloc (.cells #[.int .i64 x, .int .i64 y] 39)) := bel_alloc (bel_alloc (Bel.refl _) _) _
  obtain ⟨r, Hr⟩ : ∃ r, Hid (ptB q x y = r) := ⟨_, (rfl : ptB q x y = _)⟩
  rw [Hr.out]
  by_cases h1 : q.a ≤ x <;> by_cases h2 : x ≤ q.c <;> by_cases h3 : q.b ≤ y <;> by_cases h4 : y ≤ q.d <;> (
    have HE : Hid (r = (decide (q.a ≤ x) && (decide (x ≤ q.c) && (decide (q.b ≤ y) && decide (y ≤ q.d))))) := Hr.out.symm
    go_enter Tryz.func86, Tryz.ntmps86
    go_wp2
    go_ret
    exact ⟨ret_bl (by rw [HE.out]; simp [h1, h2, h3, h4]), hB⟩)

set_option maxHeartbeats 1000000 in
theorem l2In_any (q : BoxD) (x y : Int) (w : World) :
    Calls Tryz.prog 22 #[.agg #[.int .i64 q.a, .int .i64 q.b, .int .i64 q.c, .int .i64 q.d], .agg #[.int .i64 x, .int .i64 y]] w fun e w' => e = .returned (.bool (ptB q x y)) ∧ Bel w w' := by
  have hB : Bel w ((w.alloc (.cells #[.int .i64 q.a, .int .i64 q.b, .int .i64 q.c, .int .i64 q.d] 41)).alloc (.cells #[.int .i64 x, .int .i64 y] 39)) := bel_alloc (bel_alloc (Bel.refl _) _) _
  obtain ⟨r, Hr⟩ : ∃ r, Hid (ptB q x y = r) := ⟨_, (rfl : ptB q x y = _)⟩
  rw [Hr.out]
  by_cases h1 : q.a ≤ x <;> by_cases h2 : x ≤ q.c <;> by_cases h3 : q.b ≤ y <;> by_cases h4 : y ≤ q.d <;> (
    have HE : Hid (r = (decide (q.a ≤ x) && (decide (x ≤ q.c) && (decide (q.b ≤ y) && decide (y ≤ q.d))))) := Hr.out.symm
    go_enter Tryz.func22, Tryz.ntmps22
    go_wp2
    go_ret
    exact ⟨ret_bl (by rw [HE.out]; simp [h1, h2, h3, h4]), hB⟩)

set_option maxRecDepth 100000 in
set_option maxHeartbeats 1000000 in
theorem indexFunc_any (q : BoxD) (a : Option Addr) (n c : Nat) (l : List PtD) (bs : List Nat) (w : World) (hT : PtL w a l bs) (hn : l.length = n) (hm : n ≤ 1048576) :
    Calls Tryz.prog 117 #[.slice a n c, .func (.func 86) #[.agg #[.int .i64 q.a, .int .i64 q.b, .int .i64 q.c, .int .i64 q.d]] #[]] w fun e w' => ∃ r : Int, e = .returned (.int .i64 r) ∧ decide (0 ≤ r) = (l.any fun p => ptB q p.x p.y) ∧ Bel w w' := by
  have Hn : Hid (l.length = n) := hn
  clear hn
  go_enter Tryz.func117, Tryz.ntmps117
  go_wp2
  go_loopw [5, 8] (fun _ i wr => ∃ k : Nat, k ≤ n ∧ i = .int .i64 k ∧ (∀ j (h : j < l.length), j < k → ptB q l[j].x l[j].y = false) ∧ Bel w wr) (fun _ i _ => n - (intOf i).toNat)
  case atStart => exact ⟨0, Nat.zero_le _, rfl, fun j _ hj => absurd hj (Nat.not_lt_zero _), Bel.refl _⟩
  case round =>
    obtain ⟨k, hk, rfl, hall, hbel⟩ := hrel
    have H : Hid (∀ j (h : j < l.length), j < k → ptB q l[j].x l[j].y = false) := hall
    clear hall
    by_cases hlt : k < n
    · have hkl : k < l.length := by rw [Hn.out]; exact hlt
      obtain ⟨b, off, f, rfl, hb, hx⟩ := (hT.bel ptE hbel).out hkl
      obtain ⟨_, _, _, c0, c1⟩ := hx k hkl
      have hlt' : (k : Int) < (n : Int) := by omega
      obtain ⟨r, Hr⟩ : ∃ r, Hid (ptB q l[k].x l[k].y = r) := ⟨_, (rfl : ptB q l[k].x l[k].y = _)⟩
      clear hx hT
      go_wp2_with fail
      refine (holds_any q _ _ _).mono ?_
      rintro e w1 ⟨rfl, hb1⟩
      have hB1 := bel_step hbel hb1
      rw [Hr.out]
      cases r
      · clear c0 c1 hb hbel hb1
        go_wp2
        go_roundw
        case rel => exact ⟨k + 1, by omega, by go_num, fun j h hj => by
            by_cases e : j = k
            · subst e; exact Hr.out
            · exact H.out j h (by omega), hB1⟩
        case measure => simp [intOf]; omega
      · have HA : Hid ((l.any fun p => ptB q p.x p.y) = true) := List.any_eq_true.2 ⟨l[k], List.getElem_mem hkl, Hr.out⟩
        clear c0 c1 hb hbel hb1
        go_wp2
        go_ret
        exact ⟨_, rfl, by rw [HA.out]; simp, hB1⟩
    · have HA : Hid ((l.any fun p => ptB q p.x p.y) = false) := List.any_eq_false.2 fun p hp => by
        obtain ⟨j, hj, rfl⟩ := List.mem_iff_getElem.1 hp
        have := Hn.out
        rw [H.out j hj (by omega)]
        exact Bool.false_ne_true
      clear hT
      go_wp2
      go_ret
      exact ⟨_, rfl, by rw [HA.out]; rfl, hbel⟩
theorem containsFunc_any (q : BoxD) (r : Bool) (a : Option Addr) (n c : Nat) (l : List PtD) (bs : List Nat) (w : World) (hT : PtL w a l bs) (hn : l.length = n) (hm : n ≤ 1048576) (hr : (l.any fun p => ptB q p.x p.y) = r) :
    Calls Tryz.prog 84 #[.slice a n c, .func (.func 86) #[.agg #[.int .i64 q.a, .int .i64 q.b, .int .i64 q.c, .int .i64 q.d]] #[]] w fun e w' => e = .returned (.bool r) ∧ Bel w w' := by
  have HR : Hid ((l.any fun p => ptB q p.x p.y) = r) := hr
  clear hr
  go_enter Tryz.func84, Tryz.ntmps84
  go_wp2_with fail
  refine (indexFunc_any q _ _ _ l bs _ hT hn hm).mono ?_
  rintro e w1 ⟨z, rfl, hz, hb1⟩
  have HZ : Hid (decide (0 ≤ z) = r) := hz.trans HR.out
  clear hz
  go_wp2
  go_ret
  exact ⟨ret_bl HZ.out, hb1⟩

set_option maxRecDepth 100000 in
set_option maxHeartbeats 1000000 in
theorem within_any (S n0 : Nat) (s : Int → Prop) (id : Int) (a1 : Option Addr) (n1 c1 : Nat) (a : Option Addr) (n c : Nat) (l : List PartD) (bs : List Nat) (w : World) (hS : SetAt w S n0 s) (hT : Parts w a l bs) (hn : l.length = n) (hm : n ≤ 1048576) :
    Calls Tryz.prog 38 #[.agg #[.int .i64 id, .slice a1 n1 c1, .slice a n c], .map (some S)] w fun e w' => e = .returned (.bool (bP (∀ p ∈ l, s p.way))) ∧ Bel w w' := by
  have Hn : Hid (l.length = n) := hn
  clear hn
  obtain ⟨W, HW⟩ : ∃ W, Hid (W = w.alloc (.cells #[.int .i64 id, .slice a1 n1 c1, .slice a n c] 98)) := ⟨_, (rfl : w.alloc (.cells #[.int .i64 id, .slice a1 n1 c1, .slice a n c] 98) = _)⟩
  have hBW : Bel w W := by rw [HW.out]; exact bel_alloc (Bel.refl _) _
  have hSW := hS.bel hBW
  have hTW := hT.bel partE hBW
  clear hS hT
  go_enter Tryz.func38, Tryz.ntmps38
  go_wp2
  rw [← HW.out]
  go_loopw [6, 10] (fun _ i wr => ∃ k : Nat, k ≤ n ∧ i = .int .i64 k ∧ (∀ j (h : j < l.length), j < k → s l[j].way) ∧ Bel W wr) (fun _ i _ => n - (intOf i).toNat)
  case atStart => exact ⟨0, Nat.zero_le _, rfl, fun j _ hj => absurd hj (Nat.not_lt_zero _), Bel.refl _⟩
  case round =>
    obtain ⟨k, hk, rfl, hall, hbel⟩ := hrel
    have H : Hid (∀ j (h : j < l.length), j < k → s l[j].way) := hall
    clear hall
    by_cases hlt : k < n
    · have hkl : k < l.length := by rw [Hn.out]; exact hlt
      obtain ⟨b, off, f, rfl, hb, hx⟩ := (hTW.bel partE hbel).out hkl
      obtain ⟨_, i0, c0, c1'⟩ := hx k hkl
      have hlt' : (k : Int) < (n : Int) := by omega
      have hSq := (hSW.bel hbel).bel (bel_alloc (Bel.refl wr) (.cells #[.int .i64 l[k].way, .bool l[k].inner] 70))
      have hBq := bel_alloc hbel (.cells #[.int .i64 l[k].way, .bool l[k].inner] 70)
      clear hx hTW
      go_wp2_with fail
      refine (has_any S n0 s _ _ hSq i0).mono ?_
      rintro e w1 ⟨rfl, hb1⟩
      have hB1 := bel_step hBq hb1
      cases hr : bP (s l[k].way)
      · have HF : Hid (false = bP (∀ p ∈ l, s p.way)) := (bP_false fun h => bP_not hr (h _ (List.getElem_mem hkl))).symm
        clear c0 c1' hb hbel hb1 hSq hBq
        go_wp2
        go_ret
        exact ⟨ret_bl HF.out, bel_step hBW hB1⟩
      · have HA : Hid (s l[k].way) := bP_out hr
        clear c0 c1' hb hbel hb1 hSq hBq
        go_wp2
        go_roundw
        case rel => exact ⟨k + 1, by omega, by go_num, fun j h hj => by
            by_cases e : j = k
            · subst e; exact HA.out
            · exact H.out j h (by omega), hB1⟩
        case measure => simp [intOf]; omega
    · have HT : Hid (true = bP (∀ p ∈ l, s p.way)) := (bP_true fun p hp => by
        obtain ⟨j, hj, rfl⟩ := List.mem_iff_getElem.1 hp
        have := Hn.out
        exact H.out j hj (by omega)).symm
      clear hTW
      go_wp2
      go_ret
      exact ⟨ret_bl HT.out, bel_step hBW hbel⟩
end Go.Proofs.YtmmapkpieimibaaGreat
