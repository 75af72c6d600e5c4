/-
  Whether a graph can be, in the program: its places, its roads, its bans: contracts.
-/
import Derived.Test.YtiagdabikbjbiaaXC
import Derived.Deep.DeepCutAuto
namespace Go.Proofs.Ytiagdabikbjbiaa
open Go.RowKit Go.Maps

/-- A graph as a value. -/
abbrev gphV (a0 : Option Addr) (n0 c0 : Nat) (a1 : Option Addr) (n1 c1 : Nat) (a2 : Option Addr) (n2 c2 : Nat) : Value := .agg #[.slice a0 n0 c0, .slice a1 n1 c1, .slice a2 n2 c2]
/-- The Id ahead of the k-th place. -/
def aheadI (l : List SpotD) (k : Nat) : Int := if h : 0 < k ∧ k ≤ l.length then (l[k - 1]'(by omega)).id else 0
theorem aheadI_succ {l : List SpotD} {m : Nat} (h : m < l.length) : aheadI l (m + 1) = l[m].id := by
  unfold aheadI; rw [dif_pos ⟨by omega, by omega⟩]; simp
def SpotAt (l : List SpotD) (i : Nat) (h : i < l.length) : Prop := idk l[i].id = true ∧ pok l[i].x l[i].y = true ∧ (0 < i → (l[i - 1]'(by omega)).id < l[i].id)

set_option maxRecDepth 100000 in
set_option maxHeartbeats 2000000 in
theorem placesOk_any (a0 : Option Addr) (n c0 : Nat) (a1 : Option Addr) (n1 c1 : Nat) (a2 : Option Addr) (n2 c2 : Nat) (l : List SpotD) (bs : List Nat) (w : World) (hT : SpotL w a0 l bs) (hn : l.length = n) (hm : n ≤ 1048576) :
    Calls Try.prog 68 #[gphV a0 n c0 a1 n1 c1 a2 n2 c2] w fun e w' => e = .returned (.bool (bP (spotsP l))) ∧ Bel w w' := by
  have Hn : Hid (l.length = n) := hn
  clear hn
  obtain ⟨W, HW⟩ : ∃ W, Hid (W = w.alloc (.cells #[.slice a0 n c0, .slice a1 n1 c1, .slice a2 n2 c2] 34)) := ⟨_, (rfl : w.alloc (.cells #[.slice a0 n c0, .slice a1 n1 c1, .slice a2 n2 c2] 34) = _)⟩
  have hBW : Bel w W := by rw [HW.out]; exact bel_alloc (Bel.refl _) _
  have hTW := hT.bel spotE hBW
  have X0 : Blk W w.heap.size [.slice a0 n c0, .slice a1 n1 c1, .slice a2 n2 c2] := by rw [HW.out]; exact Blk.new w [.slice a0 n c0, .slice a1 n1 c1, .slice a2 n2 c2] _
  have x0 : W.cell? ⟨w.heap.size, 0, none⟩ = some (.slice a0 n c0) := X0.cell 0 (by simp)
  have xl := X0.lt
  clear hT
  go_enter Try.func68, Try.ntmps68
  go_wp2
  rw [← HW.out]
  go_wp2
  go_loopw [3, 5, 9] (fun p _ i wr => ∃ (k : Nat) (y : Int), k ≤ n ∧ i = .int .i64 k ∧ p = .int .i64 y ∧ Hid (y = aheadI l k) ∧ (∀ j (h : j < l.length), j < k → SpotAt l j h) ∧ Bel W wr) (fun _ _ i _ => n - (intOf i).toNat)
  case atStart => exact ⟨0, 0, Nat.zero_le _, rfl, rfl, (by unfold aheadI; simp : (0 : Int) = aheadI l 0), fun j _ hj => absurd hj (Nat.not_lt_zero _), Bel.refl _⟩
  case round =>
    obtain ⟨k, y, hk, rfl, rfl, HY, hall, hbel⟩ := hrel
    have H : Hid (∀ j (h : j < l.length), j < k → SpotAt l j h) := hall
    clear hall x0 xl X0
    by_cases hlt : k < n
    · have hkl : k < l.length := by rw [Hn.out]; exact hlt
      obtain ⟨b, off, f, rfl, hb, hx⟩ := (hTW.bel spotE hbel).out hkl
      obtain ⟨_, i0, i1, i2, c0, c1, c2⟩ := hx k hkl
      obtain ⟨d, Hd⟩ : ∃ d, Hid (d = l[k]) := ⟨_, (rfl : l[k] = _)⟩
      rw [← Hd.out] at c0 c1 c2
      obtain ⟨V, HV⟩ : ∃ V, Hid (V = wr.alloc (.cells #[.int .i64 d.id, .int .i64 d.x, .int .i64 d.y] 83)) := ⟨_, (rfl : wr.alloc (.cells #[.int .i64 d.id, .int .i64 d.x, .int .i64 d.y] 83) = _)⟩
      have hbV : Bel wr V := by rw [HV.out]; exact bel_alloc (Bel.refl _) _
      have XV : Blk V wr.heap.size [.int .i64 d.id, .int .i64 d.x, .int .i64 d.y] := by rw [HV.out]; exact Blk.new wr [.int .i64 d.id, .int .i64 d.x, .int .i64 d.y] _
      have v0 : V.cell? ⟨wr.heap.size, 0, none⟩ = some (.int .i64 d.id) := XV.cell 0 (by simp)
      have v1 : V.cell? ⟨wr.heap.size, 1, none⟩ = some (.int .i64 d.x) := XV.cell 1 (by simp)
      have v2 : V.cell? ⟨wr.heap.size, 2, none⟩ = some (.int .i64 d.y) := XV.cell 2 (by simp)
      have vl := XV.lt
      have hBV := bel_step hBW (bel_step hbel hbV)
      have HN : Hid (d.id ≤ y → spotsP l → False) := fun h hs => by
        have h1 := hs k hkl
        rw [HY.out] at h
        rcases k with _ | m
        · have h2 := idk_iff.1 h1.1
          rw [← Hd.out] at h2
          unfold aheadI at h
          simp at h
          omega
        · rw [aheadI_succ (by omega), Hd.out] at h
          have h3 := h1.2.2 (Nat.succ_pos _)
          simp only [Nat.add_sub_cancel] at h3
          omega
      clear hx hTW i0 i1 i2
      by_cases hy : d.id ≤ y
      · have HF : Hid (false = bP (spotsP l)) := (bP_false (HN.out hy)).symm
        go_wp2
        go_ret
        exact ⟨ret_bl HF.out, bel_step hBW (bel_alloc hbel _)⟩
      · rcases Bool.eq_false_or_eq_true (idk d.id) with hi | hi
        · rcases Bool.eq_false_or_eq_true (pok d.x d.y) with hp | hp
          · have HA : Hid (SpotAt l k hkl) := ⟨by rw [← Hd.out]; exact hi, by rw [← Hd.out]; exact hp, fun h0 => by
              have h1 := HY.out
              have h2 : aheadI l k = (l[k - 1]'(by omega)).id := by unfold aheadI; rw [dif_pos ⟨h0, by omega⟩]
              rw [← h2, ← h1, ← Hd.out]; omega⟩
            have HY2 : Hid (d.id = aheadI l (k + 1)) := by rw [aheadI_succ hkl, ← Hd.out]; exact rfl
            go_wp2_with fail
            rw [← HV.out]
            refine (idG_r _ _ _ hi).mono ?_
            rintro e w' ⟨rfl, rfl⟩
            go_wp2_with fail
            refine (pointG_r _ _ _ _ hp).mono ?_
            rintro e w1 ⟨rfl, hb1⟩
            have u0 : w1.cell? ⟨wr.heap.size, 0, none⟩ = some (.int .i64 d.id) := (XV.bel hb1).cell 0 (by simp)
            have ul := (XV.bel hb1).lt
            have hB1 := bel_step hbel (bel_step hbV hb1)
            clear c0 c1 c2 hb v0 v1 v2 vl XV hb1 hbV
            go_wp2
            go_roundw
            case rel => exact ⟨k + 1, d.id, by omega, by go_num, rfl, HY2, fun j h hj => by
                            (by_cases e : j = k)
                            · subst e; exact HA.out
                            · exact H.out j h (by omega), hB1⟩
            case measure => simp [intOf]; omega
          · have HF : Hid (false = bP (spotsP l)) := (spotsP_at hkl (.inr (.inl (by rw [← Hd.out]; exact hp)))).symm
            go_wp2_with fail
            rw [← HV.out]
            refine (idG_r _ _ _ hi).mono ?_
            rintro e w' ⟨rfl, rfl⟩
            go_wp2_with fail
            refine (pointG_r _ _ _ _ hp).mono ?_
            rintro e w1 ⟨rfl, hb1⟩
            have hB1 := bel_step hBV hb1
            clear c0 c1 c2 hb v0 v1 v2 vl XV hb1 hbV
            go_wp2
            go_ret
            exact ⟨ret_bl HF.out, hB1⟩
        · have HF : Hid (false = bP (spotsP l)) := (spotsP_at hkl (.inl (by rw [← Hd.out]; exact hi))).symm
          go_wp2_with fail
          rw [← HV.out]
          refine (idG_r _ _ _ hi).mono ?_
          rintro e w' ⟨rfl, rfl⟩
          go_wp2
          go_ret
          exact ⟨ret_bl HF.out, hBV⟩
    · have HT : Hid (true = bP (spotsP l)) := (bP_true fun i h => H.out i h (by rw [Hn.out] at h; omega)).symm
      go_wp2
      go_ret
      exact ⟨ret_bl HT.out, bel_step hBW hbel⟩

set_option maxRecDepth 100000 in
set_option maxHeartbeats 2000000 in
theorem roadOk_any (a0 : Option Addr) (n c0 : Nat) (a1 : Option Addr) (n1 c1 : Nat) (a2 : Option Addr) (n2 c2 : Nat) (d : RoadD) (w : World) :
    Calls Try.prog 70 #[gphV a0 n c0 a1 n1 c1 a2 n2 c2, .agg #[.int .i64 d.fr, .int .i64 d.to, .int .i64 d.way, .int .i64 d.time, .int .i64 d.len, .string d.name]] w fun e w' => e = .returned (.bool (roadB n d)) ∧ Bel w w' := by
  have hB : Bel w ((w.alloc (.cells #[.slice a0 n c0, .slice a1 n1 c1, .slice a2 n2 c2] 34)).alloc (.cells #[.int .i64 d.fr, .int .i64 d.to, .int .i64 d.way, .int .i64 d.time, .int .i64 d.len, .string d.name] 72)) := bel_alloc (bel_alloc (Bel.refl _) _) _
  rcases Bool.eq_false_or_eq_true (inN n d.fr) with k0 | k0
  · rcases Bool.eq_false_or_eq_true (inN n d.to) with k1 | k1
    · rcases Bool.eq_false_or_eq_true (idk d.way) with k2 | k2
      · by_cases k3 : 1 ≤ d.time
        · by_cases k4 : d.time ≤ 1000000
          · by_cases k5 : 0 ≤ d.len
            · by_cases k6 : d.len ≤ 1000000000
              · have q0 := fun w => inSpot_r d.fr a0 n c0 _ w k0
                have q1 := fun w => inSpot_r d.to a0 n c0 _ w k1
                have HR : Hid (true = roadB n d) := (by symm; simp only [roadB, Bool.and_eq_true, decide_eq_true_eq]; exact ⟨k0, k1, k2, k3, k4, k5, k6⟩ : true = roadB n d)
                go_enter Try.func70, Try.ntmps70
                go_wp2_with (first | (go_at_call 82; with_reducible refine (q0 _).mono ?_; rintro e w' ⟨rfl, rfl⟩) | (go_at_call 82; with_reducible refine (q1 _).mono ?_; rintro e w' ⟨rfl, rfl⟩) | (go_at_call 80; refine (idG_r _ _ _ k2).mono ?_; rintro e w' ⟨rfl, rfl⟩))
                go_ret
                first | exact ⟨ret_bl HR.out, hB⟩ | exact ⟨ret_bl (by rw [← HR.out]; simp; omega), hB⟩
              · have q0 := fun w => inSpot_r d.fr a0 n c0 _ w k0
                have q1 := fun w => inSpot_r d.to a0 n c0 _ w k1
                have HR : Hid (false = roadB n d) := (by symm; simp [roadB, k6] : false = roadB n d)
                go_enter Try.func70, Try.ntmps70
                go_wp2_with (first | (go_at_call 82; with_reducible refine (q0 _).mono ?_; rintro e w' ⟨rfl, rfl⟩) | (go_at_call 82; with_reducible refine (q1 _).mono ?_; rintro e w' ⟨rfl, rfl⟩) | (go_at_call 80; refine (idG_r _ _ _ k2).mono ?_; rintro e w' ⟨rfl, rfl⟩))
                go_ret
                first | exact ⟨ret_bl HR.out, hB⟩ | exact ⟨ret_bl (by rw [← HR.out]; simp; omega), hB⟩
            · have q0 := fun w => inSpot_r d.fr a0 n c0 _ w k0
              have q1 := fun w => inSpot_r d.to a0 n c0 _ w k1
              have HR : Hid (false = roadB n d) := (by symm; simp [roadB, k5] : false = roadB n d)
              go_enter Try.func70, Try.ntmps70
              go_wp2_with (first | (go_at_call 82; with_reducible refine (q0 _).mono ?_; rintro e w' ⟨rfl, rfl⟩) | (go_at_call 82; with_reducible refine (q1 _).mono ?_; rintro e w' ⟨rfl, rfl⟩) | (go_at_call 80; refine (idG_r _ _ _ k2).mono ?_; rintro e w' ⟨rfl, rfl⟩))
              go_ret
              first | exact ⟨ret_bl HR.out, hB⟩ | exact ⟨ret_bl (by rw [← HR.out]; simp; omega), hB⟩
          · have q0 := fun w => inSpot_r d.fr a0 n c0 _ w k0
            have q1 := fun w => inSpot_r d.to a0 n c0 _ w k1
            have HR : Hid (false = roadB n d) := (by symm; simp [roadB, k4] : false = roadB n d)
            go_enter Try.func70, Try.ntmps70
            go_wp2_with (first | (go_at_call 82; with_reducible refine (q0 _).mono ?_; rintro e w' ⟨rfl, rfl⟩) | (go_at_call 82; with_reducible refine (q1 _).mono ?_; rintro e w' ⟨rfl, rfl⟩) | (go_at_call 80; refine (idG_r _ _ _ k2).mono ?_; rintro e w' ⟨rfl, rfl⟩))
            go_ret
            first | exact ⟨ret_bl HR.out, hB⟩ | exact ⟨ret_bl (by rw [← HR.out]; simp; omega), hB⟩
        · have q0 := fun w => inSpot_r d.fr a0 n c0 _ w k0
          have q1 := fun w => inSpot_r d.to a0 n c0 _ w k1
          have HR : Hid (false = roadB n d) := (by symm; simp [roadB, k3] : false = roadB n d)
          go_enter Try.func70, Try.ntmps70
          go_wp2_with (first | (go_at_call 82; with_reducible refine (q0 _).mono ?_; rintro e w' ⟨rfl, rfl⟩) | (go_at_call 82; with_reducible refine (q1 _).mono ?_; rintro e w' ⟨rfl, rfl⟩) | (go_at_call 80; refine (idG_r _ _ _ k2).mono ?_; rintro e w' ⟨rfl, rfl⟩))
          go_ret
          first | exact ⟨ret_bl HR.out, hB⟩ | exact ⟨ret_bl (by rw [← HR.out]; simp; omega), hB⟩
      · have q0 := fun w => inSpot_r d.fr a0 n c0 _ w k0
        have q1 := fun w => inSpot_r d.to a0 n c0 _ w k1
        have HR : Hid (false = roadB n d) := (by symm; simp [roadB, k2] : false = roadB n d)
        go_enter Try.func70, Try.ntmps70
        go_wp2_with (first | (go_at_call 82; with_reducible refine (q0 _).mono ?_; rintro e w' ⟨rfl, rfl⟩) | (go_at_call 82; with_reducible refine (q1 _).mono ?_; rintro e w' ⟨rfl, rfl⟩) | (go_at_call 80; refine (idG_r _ _ _ k2).mono ?_; rintro e w' ⟨rfl, rfl⟩))
        go_ret
        first | exact ⟨ret_bl HR.out, hB⟩ | exact ⟨ret_bl (by rw [← HR.out]; simp; omega), hB⟩
    · have q0 := fun w => inSpot_r d.fr a0 n c0 _ w k0
      have q1 := fun w => inSpot_r d.to a0 n c0 _ w k1
      have HR : Hid (false = roadB n d) := (by symm; simp [roadB, k1] : false = roadB n d)
      go_enter Try.func70, Try.ntmps70
      go_wp2_with (first | (go_at_call 82; with_reducible refine (q0 _).mono ?_; rintro e w' ⟨rfl, rfl⟩) | (go_at_call 82; with_reducible refine (q1 _).mono ?_; rintro e w' ⟨rfl, rfl⟩))
      go_ret
      first | exact ⟨ret_bl HR.out, hB⟩ | exact ⟨ret_bl (by rw [← HR.out]; simp; omega), hB⟩
  · have q0 := fun w => inSpot_r d.fr a0 n c0 _ w k0
    have HR : Hid (false = roadB n d) := (by symm; simp [roadB, k0] : false = roadB n d)
    go_enter Try.func70, Try.ntmps70
    go_wp2_with (first | (go_at_call 82; with_reducible refine (q0 _).mono ?_; rintro e w' ⟨rfl, rfl⟩))
    go_ret
    first | exact ⟨ret_bl HR.out, hB⟩ | exact ⟨ret_bl (by rw [← HR.out]; simp; omega), hB⟩
theorem roadOk_r (a0 : Option Addr) (n c0 : Nat) (a1 : Option Addr) (n1 c1 : Nat) (a2 : Option Addr) (n2 c2 : Nat) (d : RoadD) (r : Bool) (w : World) (h : roadB n d = r) :
    Calls Try.prog 70 #[gphV a0 n c0 a1 n1 c1 a2 n2 c2, .agg #[.int .i64 d.fr, .int .i64 d.to, .int .i64 d.way, .int .i64 d.time, .int .i64 d.len, .string d.name]] w fun e w' => e = .returned (.bool r) ∧ Bel w w' := by
  subst h; exact roadOk_any a0 n c0 a1 n1 c1 a2 n2 c2 d w

set_option maxRecDepth 100000 in
set_option maxHeartbeats 2000000 in
theorem allR_any (a0 : Option Addr) (n0 c0 : Nat) (a1 : Option Addr) (n1 c1 : Nat) (a2 : Option Addr) (n2 c2 : Nat) (a : Option Addr) (n c : Nat) (l : List RoadD) (bs : List Nat) (w : World) (hT : RoadL w a l bs) (hn : l.length = n) (hm : n ≤ 1048576) :
    Calls Try.prog 69 #[.slice a n c, .func (.func 70) #[gphV a0 n0 c0 a1 n1 c1 a2 n2 c2] #[]] w fun e w' => e = .returned (.bool (bP (roadsP n0 l))) ∧ Bel w w' := by
  have Hn : Hid (l.length = n) := hn
  clear hn
  go_enter Try.func69, Try.ntmps69
  go_wp2
  go_loopw [6, 9] (fun _ i wr => ∃ k : Nat, k ≤ n ∧ i = .int .i64 k ∧ (∀ j (h : j < l.length), j < k → roadB n0 l[j] = true) ∧ Bel w wr) (fun _ i _ => n - (intOf i).toNat)
  case atStart => exact ⟨0, Nat.zero_le _, rfl, fun j _ hj => absurd hj (Nat.not_lt_zero _), Bel.refl _⟩
  case round =>
    obtain ⟨k, hk, rfl, hall, hbel⟩ := hrel
    have H : Hid (∀ j (h : j < l.length), j < k → roadB n0 l[j] = true) := hall
    clear hall
    by_cases hlt : k < n
    · have hkl : k < l.length := by rw [Hn.out]; exact hlt
      obtain ⟨b, off, f, rfl, hb, hx⟩ := (hT.bel roadE hbel).out hkl
      obtain ⟨_, i0, i1, i2, i3, i4, i5, c0, c1, c2, c3, c4, c5⟩ := hx k hkl
      obtain ⟨d, Hd⟩ : ∃ d, Hid (d = l[k]) := ⟨_, (rfl : l[k] = _)⟩
      rw [← Hd.out] at c0 c1 c2 c3 c4 c5
      clear hx hT i0 i1 i2 i3 i4 i5
      rcases Bool.eq_false_or_eq_true (roadB n0 d) with hf | hf
      · have HA : Hid (roadB n0 l[k] = true) := by rw [← Hd.out]; exact hf
        go_wp2_with fail
        refine (roadOk_r _ _ _ _ _ _ _ _ _ d true _ hf).mono ?_
        rintro e w1 ⟨rfl, hb1⟩
        have hB1 := bel_step (bel_alloc hbel _) hb1
        clear c0 c1 c2 c3 c4 c5 hb
        go_wp2
        go_roundw
        case rel => exact ⟨k + 1, by omega, by go_num, fun j h hj => by
                        (by_cases e : j = k)
                        · subst e; exact HA.out
                        · exact H.out j h (by omega), hB1⟩
        case measure => simp [intOf]; omega
      · have HF : Hid (false = bP (roadsP n0 l)) := (bP_false fun h => by have := h k hkl; rw [← Hd.out, hf] at this; cases this).symm
        go_wp2_with fail
        refine (roadOk_r _ _ _ _ _ _ _ _ _ d false _ hf).mono ?_
        rintro e w1 ⟨rfl, hb1⟩
        have hB1 := bel_step (bel_alloc hbel _) hb1
        clear c0 c1 c2 c3 c4 c5 hb
        go_wp2
        go_ret
        exact ⟨ret_bl HF.out, hB1⟩
    · have HT : Hid (true = bP (roadsP n0 l)) := (bP_true fun i h => H.out i h (by rw [Hn.out] at h; omega)).symm
      go_wp2
      go_ret
      exact ⟨ret_bl HT.out, hbel⟩
end Go.Proofs.Ytiagdabikbjbiaa
