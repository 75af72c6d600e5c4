/-
  Contracts of what is asked of every node and of every way: for every list.
-/
import Derived.Test.YtmmapkpieimibaaGreatKeyC
import Derived.Deep.LoopGhost
namespace Go.Proofs.YtmmapkpieimibaaGreat
open Go.RowKit Go.Maps

theorem placed_any (id : Int) (a : Option Addr) (n c : Nat) (x y : Int) (w : World) :
    Calls Tryz.prog 112 #[.agg #[.int .i64 id, .slice a n c, .int .i64 x, .int .i64 y]] w fun e w' => e = .returned (.bool (pok x y)) ∧ Bel w w' := by
  go_enter Tryz.func112, Tryz.ntmps112
  go_wp2_with fail
  refine (pointOk_any _ _ _).mono ?_
  rintro e w1 ⟨rfl, hb1⟩
  go_wp2
  go_ret
  exact ⟨rfl, bel_step (bel_alloc (Bel.refl _) _) hb1⟩

set_option maxRecDepth 100000 in
set_option maxHeartbeats 1000000 in
theorem allN_any (a : Option Addr) (n c : Nat) (l : List NodeD) (bs : List Nat) (w : World) (hT : NRecs w a l bs) (hn : l.length = n) (hm : n ≤ 1048576) :
    Calls Tryz.prog 111 #[.slice a n c, .func (.func 112) #[] #[]] w fun e w' => e = .returned (.bool (bP (∀ i, i < n → nPk l i = true))) ∧ Bel w w' := by
  have Hn : Hid (l.length = n) := hn
  clear hn
  go_enter Tryz.func111, Tryz.ntmps111
  go_wp2
  go_loopw [6, 9] (fun _ i wr => ∃ k : Nat, k ≤ n ∧ i = .int .i64 k ∧ (∀ j, j < k → nPk l j = true) ∧ Bel w wr) (fun _ i _ => n - (intOf i).toNat)
  case atStart => exact ⟨0, Nat.zero_le _, rfl, fun j hj => absurd hj (Nat.not_lt_zero _), Bel.refl _⟩
  case round =>
    obtain ⟨k, hk, rfl, hall, hbel⟩ := hrel
    have H : Hid (∀ j, j < k → nPk l j = true) := hall
    clear hall
    by_cases hlt : k < n
    · have hkl : k < l.length := by rw [Hn.out]; exact hlt
      obtain ⟨b, off, f, rfl, hb, hx⟩ := (hT.bel nRecE hbel).out hkl
      obtain ⟨in0, _, _, c0, c2, c3, a1, k1, _, c1, t1⟩ := hx k hkl
      clear hx hT
      cases hf : pok l[k].x l[k].y
      · have HF : Hid (false = bP (∀ i, i < n → nPk l i = true)) := (bP_false fun h => by have := h k hlt; rw [nPk_at hkl, hf] at this; cases this).symm
        go_wp2_with fail
        refine (placed_any _ _ _ _ _ _ _).mono ?_
        rintro e w1 ⟨rfl, hb1⟩
        have hB1 := bel_step (bel_alloc hbel _) hb1
        go_wp2
        go_ret
        exact ⟨ret_bl HF.out, hB1⟩
      · have HA : Hid (nPk l k = true) := by rw [nPk_at hkl]; exact hf
        go_wp2_with fail
        refine (placed_any _ _ _ _ _ _ _).mono ?_
        rintro e w1 ⟨rfl, hb1⟩
        have hB1 := bel_step (bel_alloc hbel _) hb1
        go_wp2
        go_roundw
        case rel => exact ⟨k + 1, by omega, by go_num, fun j hj => by
                        (by_cases e : j = k)
                        · subst e; exact HA.out
                        · exact H.out j (by omega), hB1⟩
        case measure => simp [intOf]; omega
    · have HT : Hid (true = bP (∀ i, i < n → nPk l i = true)) := (bP_true fun j hj => H.out j (by omega)).symm
      go_wp2
      go_ret
      exact ⟨ret_bl HT.out, hbel⟩

/-- The program's chart as a value. -/
abbrev chV (an : Option Addr) (nn cn : Nat) (aw : Option Addr) (nw cw : Nat) (aa : Option Addr) (na ca : Nat) (bN bW : Nat) : Value :=
  .agg #[.slice an nn cn, .slice aw nw cw, .slice aa na ca, .map (some bN), .map (some bW)]

theorem wayP_few {n : Nat} {I : Nat → Int} {ns : List Int} (h : ¬ (2 ≤ ns.length ∧ ns.length ≤ 2000)) : bP (WayP n I ns) = false := bP_false fun hh => h ⟨hh.1, hh.2.1⟩
theorem wayP_no {n : Nat} {I : Nat → Int} {ns : List Int} {k : Nat} (hk : k < ns.length) (h : ¬ HasI n I ns[k]) : bP (WayP n I ns) = false := bP_false fun hh => h (hh.2.2 k hk).1
theorem wayP_two {n : Nat} {I : Nat → Int} {ns : List Int} {m : Nat} (hk : m + 1 < ns.length) (h : ns[m + 1] = ns[m]) : bP (WayP n I ns) = false :=
  bP_false fun hh => (hh.2.2 (m + 1) hk).2 (Nat.succ_pos _) (by simpa using h)

set_option maxRecDepth 100000 in
set_option maxHeartbeats 2000000 in
theorem wayOk_any (an : Option Addr) (nn cn : Nat) (aw : Option Addr) (nw cw : Nat) (aa : Option Addr) (na ca : Nat) (bN bW : Nat) (id : Int) (a1 : Option Addr) (n1 c1 : Nat) (a2 : Option Addr) (n2 c2 : Nat)
    (ns : List Int) (bs : List Nat) (nm n : Nat) (I : Nat → Int) (g : Int → Option Int) (w : World) (hI : Ints w a2 ns bs) (hn : ns.length = n2) (hm : n2 ≤ 1048576) (hM : MapAt w bN nm g) (hg : ∀ x, (g x).isSome = bP (HasI n I x)) :
    Calls Tryz.prog 114 #[chV an nn cn aw nw cw aa na ca bN bW, .agg #[.int .i64 id, .slice a1 n1 c1, .slice a2 n2 c2]] w fun e w' => e = .returned (.bool (bP (WayP n I ns))) ∧ Bel w w' := by
  have Hn : Hid (ns.length = n2) := hn
  have Hg : Hid (∀ x, (g x).isSome = bP (HasI n I x)) := hg
  clear hn hg
  by_cases h2 : 2 ≤ n2
  · by_cases h3 : n2 ≤ 2000
    · go_enter Tryz.func114, Tryz.ntmps114
      go_wp2
      obtain ⟨W, HW⟩ : ∃ W, Hid (W = (w.alloc (.cells #[.slice an nn cn, .slice aw nw cw, .slice aa na ca, .map (some bN), .map (some bW)] 81)).alloc (.cells #[.int .i64 id, .slice a1 n1 c1, .slice a2 n2 c2] 95)) := ⟨_, (rfl : _ = _)⟩
      have hB : Bel w W := by rw [HW.out]; exact bel_alloc (bel_alloc (Bel.refl _) _) _
      have X0 : Blk W w.heap.size [.slice an nn cn, .slice aw nw cw, .slice aa na ca, .map (some bN), .map (some bW)] := by rw [HW.out]; exact (Blk.new w [.slice an nn cn, .slice aw nw cw, .slice aa na ca, .map (some bN), .map (some bW)] _).bel (bel_alloc (Bel.refl _) _)
      have X1 : Blk W (w.heap.size + 1) [.int .i64 id, .slice a1 n1 c1, .slice a2 n2 c2] := by rw [HW.out]; exact Blk.new1 w _ [.int .i64 id, .slice a1 n1 c1, .slice a2 n2 c2] _
      have x3 : W.cell? ⟨w.heap.size, 3, none⟩ = some (.map (some bN)) := X0.cell 3 (by simp)
      have y2 : W.cell? ⟨w.heap.size + 1, 2, none⟩ = some (.slice a2 n2 c2) := X1.cell 2 (by simp)
      rw [← HW.out]
      have hM' := hM.bel hB
      have hI' := hI.bel intE hB
      clear hM hI X0 X1
      go_loop [5, 6, 7, 8, 22] (fun _ _ _ _ i => ∃ k : Nat, k ≤ n2 ∧ i = .int .i64 k ∧ ∀ j (h : j < ns.length), j < k → HasI n I ns[j] ∧ (0 < j → ns[j] ≠ ns[j - 1]'(by omega))) (fun _ _ _ _ i => n2 - (intOf i).toNat)
      case atStart => exact ⟨0, Nat.zero_le _, rfl, fun j _ hj => absurd hj (Nat.not_lt_zero _)⟩
      case round =>
        obtain ⟨k, hk, rfl, hall⟩ := hrel
        have H : Hid (∀ j (h : j < ns.length), j < k → HasI n I ns[j] ∧ (0 < j → ns[j] ≠ ns[j - 1]'(by omega))) := hall
        clear hall
        by_cases hlt : k < n2
        · have hkl : k < ns.length := by rw [Hn.out]; exact hlt
          obtain ⟨b, off, f, rfl, hb, hx⟩ := hI'.out hkl
          obtain ⟨_, ix, cx⟩ := hx k hkl
          simp only [Nat.mul_one] at cx
          obtain ⟨x, Hx⟩ : ∃ x, Hid (x = ns[k]) := ⟨_, (rfl : ns[k] = _)⟩
          rw [← Hx.out] at cx ix
          have hlook := hM'.look ix
          rw [Hg.out x] at hlook
          cases hp : bP (HasI n I x)
          · have HF : Hid (false = bP (WayP n I ns)) := (wayP_no hkl (by rw [← Hx.out]; exact bP_not hp)).symm
            rw [hp] at hlook
            clear hx hI'
            go_wp2
            go_ret
            exact ⟨ret_bl HF.out, hB⟩
          · rw [hp] at hlook
            rcases k with _ | m
            · have HA : Hid (HasI n I ns[0] ∧ ((0 : Nat) < 0 → ns[0] ≠ ns[0 - 1]'(by omega))) := ⟨by rw [← Hx.out]; exact bP_out hp, fun h => absurd h (Nat.lt_irrefl _)⟩
              simp only [Nat.add_zero] at cx
              clear hx hI'
              go_wp2
              go_round
              case rel => exact ⟨1, by omega, by go_num, fun j h hj => by obtain rfl : j = 0 := by omega
                                                                          exact HA.out⟩
              case measure => simp [intOf]; omega
            · obtain ⟨_, iy, cy⟩ := hx m (by omega)
              simp only [Nat.mul_one] at cy
              obtain ⟨y, Hy⟩ : ∃ y, Hid (y = ns[m]'(by omega)) := ⟨_, (rfl : ns[m]'(by omega) = _)⟩
              rw [← Hy.out] at cy iy
              have hltm : (m : Int) < (n2 : Int) := by omega
              by_cases hxy : x = y
              · have HF : Hid (false = bP (WayP n I ns)) := (wayP_two hkl (by rw [← Hx.out, ← Hy.out]; exact hxy)).symm
                subst hxy
                clear hx hI'
                go_wp2
                go_ret
                exact ⟨ret_bl HF.out, hB⟩
              · have HA : Hid (HasI n I ns[m + 1] ∧ (0 < m + 1 → ns[m + 1] ≠ ns[m + 1 - 1]'(by omega))) := ⟨by rw [← Hx.out]; exact bP_out hp, fun _ => by simp only [Nat.add_sub_cancel]; rw [← Hx.out, ← Hy.out]; exact hxy⟩
                have hxy' : (x == y) = false := by simp [hxy]
                clear hx hI'
                go_wp2
                go_round
                case rel => exact ⟨m + 2, by omega, by go_num, fun j h hj => by
                                (by_cases e : j = m + 1)
                                · subst e; exact HA.out
                                · exact H.out j h (by omega)⟩
                case measure => simp [intOf]; omega
        · have HT : Hid (true = bP (WayP n I ns)) := (bP_true ⟨by rw [Hn.out]; exact h2, by rw [Hn.out]; exact h3, fun j h => H.out j h (by rw [Hn.out] at h; omega)⟩).symm
          go_wp2
          go_ret
          exact ⟨ret_bl HT.out, hB⟩
    · have HF : Hid (false = bP (WayP n I ns)) := (wayP_few (by rw [Hn.out]; omega)).symm
      go_enter Tryz.func114, Tryz.ntmps114
      go_wp2
      go_ret
      exact ⟨ret_bl HF.out, bel_alloc (bel_alloc (Bel.refl _) _) _⟩
  · have HF : Hid (false = bP (WayP n I ns)) := (wayP_few (by rw [Hn.out]; omega)).symm
    go_enter Tryz.func114, Tryz.ntmps114
    go_wp2
    go_ret
    exact ⟨ret_bl HF.out, bel_alloc (bel_alloc (Bel.refl _) _) _⟩
end Go.Proofs.YtmmapkpieimibaaGreat
