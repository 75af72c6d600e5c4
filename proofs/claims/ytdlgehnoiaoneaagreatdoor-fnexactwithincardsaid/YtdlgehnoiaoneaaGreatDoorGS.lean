/-
  Whether a graph can be, in the model: contract.
  Whether a turn is forbidden, and which roads may follow one, in the model: contracts.
-/
import Derived.Test.YtdlgehnoiaoneaaGreatDoorGphS1
import Derived.Test.YtdlgehnoiaoneaaGreatDoorGphS2
import Derived.Test.YtdlgehnoiaoneaaGreatDoorGR
import Derived.Test.YtdlgehnoiaoneaaGreatDoorGA
import Derived.Test.YtdlgehnoiaoneaaGreatDoorGF
import Derived.Test.YtdlgehnoiaoneaaGreatDoorGC
import Derived.Deep.QuietTactic
namespace Go.Proofs.YtdlgehnoiaoneaaGreatDoor
open Go.RowKit Go.Maps

set_option maxRecDepth 100000 in
set_option maxHeartbeats 4000000 in
theorem specGraphOk_any (v : Value) (g : GraphD) (bs : List Nat) (w : World) (hV : GphV w v g bs) (hQ : GphQ g) :
    Calls Tryz.prog 16 #[v] w fun e w' => e = .returned (.bool (bP (graphP g))) ∧ Bel w w' := by
  by_cases hb : g.places.length ≤ 5000 ∧ g.roads.length ≤ 8000 ∧ g.bans.length ≤ 2000
  · by_cases hs : spotsP g.places
    · by_cases hr : roadsP g.places.length g.roads
      · exact specGraphOk_3 v g bs w hV hQ hb hs hr
      · exact specGraphOk_2 v g bs w hV hQ hb hs hr
    · exact specGraphOk_1 v g bs w hV hQ hb hs
  · obtain ⟨a0, c0, a1, c1, a2, c2, b0, b1, b2, _, rfl, t0, t1, t2⟩ := hV
    obtain ⟨m0, m1, m2⟩ := hQ
    obtain ⟨n0, H0⟩ : ∃ n, Hid (g.places.length = n) := ⟨_, (rfl : g.places.length = _)⟩
    obtain ⟨n1, H1⟩ : ∃ n, Hid (g.roads.length = n) := ⟨_, (rfl : g.roads.length = _)⟩
    obtain ⟨n2, H2⟩ : ∃ n, Hid (g.bans.length = n) := ⟨_, (rfl : g.bans.length = _)⟩
    rw [H0.out] at m0
    rw [H1.out] at m1
    rw [H2.out] at m2
    rw [H0.out, H1.out, H2.out]
    obtain ⟨W, HW⟩ : ∃ W, Hid (W = w.alloc (.cells #[.slice a0 n0 c0, .slice a1 n1 c1, .slice a2 n2 c2] 34)) := ⟨_, (rfl : w.alloc (.cells #[.slice a0 n0 c0, .slice a1 n1 c1, .slice a2 n2 c2] 34) = _)⟩
    have hB0 : Bel w W := by rw [HW.out]; exact bel_alloc (Bel.refl _) _
    have X0 : Blk W w.heap.size [.slice a0 n0 c0, .slice a1 n1 c1, .slice a2 n2 c2] := by rw [HW.out]; exact Blk.new w [.slice a0 n0 c0, .slice a1 n1 c1, .slice a2 n2 c2] _
    have hG : ∀ w', Bel W w' → w'.cell? ⟨w.heap.size, 0, none⟩ = some (.slice a0 n0 c0) ∧ w'.cell? ⟨w.heap.size, 1, none⟩ = some (.slice a1 n1 c1) ∧ w'.cell? ⟨w.heap.size, 2, none⟩ = some (.slice a2 n2 c2) ∧ w.heap.size < w'.heap.size := fun w' h =>
      ⟨(X0.bel h).cell 0 (by simp), (X0.bel h).cell 1 (by simp), (X0.bel h).cell 2 (by simp), (X0.bel h).lt⟩
    have T0 := t0.bel spotE hB0
    have T1 := t1.bel roadE hB0
    have T2 := t2.bel banE hB0
    clear t0 t1 t2 X0
    obtain ⟨y0, y1, y2, yl⟩ := hG W (Bel.refl _)
    rw [H0.out, H1.out, H2.out] at hb
    have HF : Hid (false = bP (graphP g)) := (bP_false fun h => hb ⟨by have := h.1.1; rw [H0.out] at this; exact this, by have := h.1.2.1; rw [H1.out] at this; exact this, by have := h.1.2.2; rw [H2.out] at this; exact this⟩).symm
    have hbig' : ¬ n0 ≤ 5000 ∨ (n0 ≤ 5000 ∧ ¬ n1 ≤ 8000) ∨ (n0 ≤ 5000 ∧ n1 ≤ 8000 ∧ ¬ n2 ≤ 2000) := by omega
    clear hb
    rcases hbig' with h | ⟨h, h'⟩ | ⟨h, h', h''⟩
    all_goals
      go_enter Tryz.func16, Tryz.ntmps16
      go_wp2
      all_goals first | (exfalso; omega) | (go_ret; exact ⟨ret_bl HF.out, by rw [← HW.out]; exact hB0⟩)
end Go.Proofs.YtdlgehnoiaoneaaGreatDoor

namespace Go.Proofs.YtdlgehnoiaoneaaGreatDoor
open Go.RowKit Go.Maps

theorem bnEq (x y x' y' : Int) (w : World) : Sem.run Tryz.prog (binOp .eql 73 (.agg #[.int .i64 x, .int .i64 y]) (.agg #[.int .i64 x', .int .i64 y'])) w = .ok (.bool (decide (x = x') && decide (y = y'))) w := by
  by_cases h1 : x = x' <;> by_cases h2 : y = y' <;> go_simp
theorem bn_same {x y x' y' : Int} (h : x = x' ∧ y = y') : (decide (x = x') && decide (y = y')) = true := by simp [h.1, h.2]
theorem bn_diff {x y x' y' : Int} (h : ¬ (x = x' ∧ y = y')) : (decide (x = x') && decide (y = y')) = false := by
  rw [Bool.and_eq_false_iff, decide_eq_false_iff_not, decide_eq_false_iff_not]
  rcases Classical.em (x = x') with h1 | h1
  · exact .inr fun h2 => h ⟨h1, h2⟩
  · exact .inl h1
theorem banLt_trans {a b c : BanD} (h1 : banLt a b) (h2 : banLt b c) : banLt a c := by unfold banLt at *; omega
theorem banLt_irr {a : BanD} : ¬ banLt a a := by unfold banLt; omega
theorem bans_mono {rs : List RoadD} {l : List BanD} (h : bansP rs l) {i : Nat} : ∀ {j : Nat} (hj : j < l.length) (hij : i < j), banLt (l[i]'(by omega)) l[j]
  | 0, _, hij => absurd hij (Nat.not_lt_zero _)
  | j + 1, hj, hij => by
    have h1 := (h (j + 1) hj).2 (Nat.succ_pos _)
    simp only [Nat.add_sub_cancel] at h1
    by_cases e : i = j
    · subst e; exact h1
    · exact banLt_trans (bans_mono h (by omega) (by omega)) h1

set_option maxRecDepth 100000 in
set_option maxHeartbeats 2000000 in
theorem banned_any (a0 : Option Addr) (n0 c0 : Nat) (a1 : Option Addr) (n1 c1 : Nat) (a2 : Option Addr) (n c2 : Nat) (rs : List RoadD) (l : List BanD) (bs : List Nat) (f t : Int) (w : World) (hT : BanL w a2 l bs) (hn : l.length = n) (hm : n ≤ 2000) (hA : bansP rs l) :
    Calls Tryz.prog 51 #[gphV a0 n0 c0 a1 n1 c1 a2 n c2, .int .i64 f, .int .i64 t] w fun e w' => e = .returned (.bool (bP (inL l f t))) ∧ Bel w w' := by
  have Hn : Hid (l.length = n) := hn
  have H : Hid (bansP rs l) := hA
  clear hn hA
  have heq := bnEq
  obtain ⟨W, HW⟩ : ∃ W, Hid (W = (w.alloc (.cells #[.slice a0 n0 c0, .slice a1 n1 c1, .slice a2 n c2] 34)).alloc (.cells #[.int .i64 f, .int .i64 t] 73)) := ⟨_, (rfl : (w.alloc (.cells #[.slice a0 n0 c0, .slice a1 n1 c1, .slice a2 n c2] 34)).alloc (.cells #[.int .i64 f, .int .i64 t] 73) = _)⟩
  have hBW : Bel w W := by rw [HW.out]; exact bel_alloc (bel_alloc (Bel.refl _) _) _
  have X0 : Blk W w.heap.size [.slice a0 n0 c0, .slice a1 n1 c1, .slice a2 n c2] := by rw [HW.out]; exact (Blk.new w [.slice a0 n0 c0, .slice a1 n1 c1, .slice a2 n c2] _).bel (bel_alloc (Bel.refl _) _)
  have X1 : Blk W (w.heap.size + 1) [.int .i64 f, .int .i64 t] := by rw [HW.out]; exact Blk.new1 w _ [.int .i64 f, .int .i64 t] _
  have hG : ∀ w', Bel W w' → w'.cell? ⟨w.heap.size, 2, none⟩ = some (.slice a2 n c2) ∧ w'.cell? ⟨w.heap.size + 1, 0, none⟩ = some (.int .i64 f) ∧ w'.cell? ⟨w.heap.size + 1, 1, none⟩ = some (.int .i64 t) ∧ w.heap.size < w'.heap.size ∧ w.heap.size + 1 < w'.heap.size := fun w' h =>
    ⟨(X0.bel h).cell 2 (by simp), (X1.bel h).cell 0 (by simp), (X1.bel h).cell 1 (by simp), (X0.bel h).lt, (X1.bel h).lt⟩
  have hTW := hT.bel banE hBW
  obtain ⟨y2, y3, y4, yl, yl2⟩ := hG W (Bel.refl _)
  clear hT X0 X1
  go_enter Tryz.func51, Tryz.ntmps51
  go_upto_region 2 with fail
  rw [← HW.out]
  go_wp2
  clear y2 y3 y4 yl yl2
  go_loopw [8, 9, 10] (fun lo hi _ wr => ∃ p q : Nat, p ≤ q ∧ q ≤ n ∧ lo = .int .i64 p ∧ hi = .int .i64 q ∧ Hid ((∀ i (h : i < l.length), i < p → banLt l[i] ⟨f, t⟩) ∧ ∀ i (h : i < l.length), q ≤ i → ¬ banLt l[i] ⟨f, t⟩) ∧ Bel W wr) (fun lo hi _ _ => (intOf hi).toNat - (intOf lo).toNat)
  case atStart => exact ⟨0, n, Nat.zero_le _, Nat.le_refl _, rfl, rfl, (⟨fun i _ hi => absurd hi (Nat.not_lt_zero _), fun i h1 h2 => absurd h2 (by rw [Hn.out] at h1; omega)⟩ : (∀ i (h : i < l.length), i < 0 → banLt l[i] ⟨f, t⟩) ∧ ∀ i (h : i < l.length), n ≤ i → ¬ banLt l[i] ⟨f, t⟩), Bel.refl _⟩
  case round =>
    obtain ⟨p, q, hpq, hqn, rfl, rfl, HS, hbel⟩ := hrel
    by_cases hlt : p < q
    · obtain ⟨k, hk⟩ : ∃ k, (p + q) / 2 = k := ⟨_, rfl⟩
      have hk1 : p ≤ k := by omega
      have hk2 : k < q := by omega
      have hki : ((p : Int) + q) / 2 = k := by omega
      have hkn : (k : Int) < (n : Int) := by omega
      have hkl : k < l.length := by rw [Hn.out]; omega
      obtain ⟨b, off, ff, rfl, hb, hx⟩ := (hTW.bel banE hbel).out hkl
      obtain ⟨_, _, _, z0, z1⟩ := hx k hkl
      obtain ⟨d, Hd⟩ : ∃ d, Hid (d = l[k]) := ⟨_, (rfl : l[k] = _)⟩
      rw [← Hd.out] at z0 z1
      have hS : ∀ w', Bel wr w' → w'.cell? ⟨w.heap.size, 2, none⟩ = some (.slice (some ⟨b, off, none⟩) n c2) ∧ w'.cell? ⟨w.heap.size + 1, 0, none⟩ = some (.int .i64 f) ∧ w'.cell? ⟨w.heap.size + 1, 1, none⟩ = some (.int .i64 t) ∧ w'.cell? ⟨b, off + k * 2, none⟩ = some (.int .i64 d.fr) ∧ w'.cell? ⟨b, off + k * 2 + 1, none⟩ = some (.int .i64 d.to) := fun w' h => by
        obtain ⟨s1, s2, s3, _⟩ := hG w' (bel_step hbel h)
        exact ⟨s1, s2, s3, bel_cellM h hb z0, bel_cellM h hb z1⟩
      have g0 : Bel wr wr := Bel.refl _
      obtain ⟨r, HR⟩ : ∃ r, Hid (bP (banLt d ⟨f, t⟩) = r) := ⟨_, (rfl : bP (banLt d ⟨f, t⟩) = _)⟩
      have cB : ∀ w, Calls Tryz.prog 35 #[.agg #[.int .i64 d.fr, .int .i64 d.to], .agg #[.int .i64 f, .int .i64 t]] w fun e w' => e = .returned (.bool r) ∧ Bel w w' := fun w => by rw [← HR.out]; exact banLess_any d ⟨f, t⟩ w
      clear hx z0 z1 hk
      rcases Bool.eq_false_or_eq_true r with hr | hr
      · have HS2 : Hid ((∀ i (h : i < l.length), i < k + 1 → banLt l[i] ⟨f, t⟩) ∧ ∀ i (h : i < l.length), q ≤ i → ¬ banLt l[i] ⟨f, t⟩) := ⟨fun i h hi => by
            have hd : banLt l[k] ⟨f, t⟩ := by rw [← Hd.out]; exact bP_out (by rw [HR.out]; exact hr)
            by_cases e : i = k
            · subst e; exact hd
            · exact banLt_trans (bans_mono H.out hkl (by omega)) hd, HS.out.2⟩
        subst hr
        go_wp2
        go_region_held3 (fun w' => Bel wr w') (with_reducible (repeat (first | assumption | exact g0 | refine Bel.drew ?_ | refine bel_then (by assumption) ?_)))
          (first
            | (go_at_call 35; with_reducible refine (cB _).mono ?_; rintro e w' ⟨rfl, hbk⟩))
        have hH : Bel wr w' := by assumption
        go_wp2
        go_roundw
        case rel => exact ⟨k + 1, q, by omega, hqn, by go_num, rfl, HS2, bel_step hbel hH⟩
        case measure => simp [intOf]; omega
      · have HS2 : Hid ((∀ i (h : i < l.length), i < p → banLt l[i] ⟨f, t⟩) ∧ ∀ i (h : i < l.length), k ≤ i → ¬ banLt l[i] ⟨f, t⟩) := ⟨HS.out.1, fun i h hi hlt' => by
            have hd : ¬ banLt l[k] ⟨f, t⟩ := by rw [← Hd.out]; exact bP_not (by rw [HR.out]; exact hr)
            by_cases e : i = k
            · subst e; exact hd hlt'
            · exact hd (banLt_trans (bans_mono H.out h (by omega)) hlt')⟩
        subst hr
        go_wp2
        go_region_held3 (fun w' => Bel wr w') (with_reducible (repeat (first | assumption | exact g0 | refine Bel.drew ?_ | refine bel_then (by assumption) ?_)))
          (first
            | (go_at_call 35; with_reducible refine (cB _).mono ?_; rintro e w' ⟨rfl, hbk⟩))
        have hH : Bel wr w' := by assumption
        go_wp2
        go_roundw
        case rel => exact ⟨p, k, hk1, by omega, rfl, rfl, HS2, bel_step hbel hH⟩
        case measure => simp [intOf]; omega
    · obtain rfl : p = q := by omega
      obtain ⟨y2, y3, y4, yl, yl2⟩ := hG wr hbel
      by_cases hpn : p < n
      · have hpI : (p : Int) < (n : Int) := by omega
        have hkl : p < l.length := by rw [Hn.out]; omega
        obtain ⟨b, off, ff, rfl, hb, hx⟩ := (hTW.bel banE hbel).out hkl
        obtain ⟨_, _, _, z0, z1⟩ := hx p hkl
        obtain ⟨d, Hd⟩ : ∃ d, Hid (d = l[p]) := ⟨_, (rfl : l[p] = _)⟩
        rw [← Hd.out] at z0 z1
        clear hx
        by_cases he : d.fr = f ∧ d.to = t
        · have HE : Hid (true = bP (inL l f t)) := (bP_true ⟨l[p], List.getElem_mem hkl, by rw [← Hd.out]; exact he⟩).symm
          have hq := bn_same he
          clear he
          go_wp2
          go_quiet (fail)
          go_wp2
          go_ret
          exact ⟨ret_bl HE.out, bel_step hBW (bel_drewN hbel _)⟩
        · have HE : Hid (false = bP (inL l f t)) := (bP_false fun ⟨x, hx, h1, h2⟩ => by
            obtain ⟨i, hi, rfl⟩ := List.mem_iff_getElem.1 hx
            have hx' : l[i] = (⟨f, t⟩ : BanD) := by rw [← h1, ← h2]
            by_cases c1 : i < p
            · have := HS.out.1 i hi c1; rw [hx'] at this; exact banLt_irr this
            · by_cases c2 : i = p
              · subst c2; exact he (by rw [Hd.out]; exact ⟨h1, h2⟩)
              · have h3 := bans_mono H.out hi (show p < i by omega)
                rw [hx'] at h3
                exact HS.out.2 p hkl (Nat.le_refl _) h3).symm
          have hq := bn_diff he
          clear he
          go_wp2
          go_quiet (fail)
          go_wp2
          go_ret
          exact ⟨ret_bl HE.out, bel_step hBW (bel_drewN hbel _)⟩
      · have HE : Hid (false = bP (inL l f t)) := (bP_false fun ⟨x, hx, h1, h2⟩ => by
          obtain ⟨i, hi, rfl⟩ := List.mem_iff_getElem.1 hx
          have hx' : l[i] = (⟨f, t⟩ : BanD) := by rw [← h1, ← h2]
          have := HS.out.1 i hi (by rw [Hn.out] at hi; omega)
          rw [hx'] at this
          exact banLt_irr this).symm
        have hge : decide ((p : Int) < (n : Int)) = false := by simp; omega
        have hge' : decide (p < n) = false := by simp; omega
        have hS : ∀ w', Bel wr w' → w'.cell? ⟨w.heap.size, 2, none⟩ = some (.slice a2 n c2) := fun w' h => (hG w' (bel_step hbel h)).1
        have g0 : Bel wr wr := Bel.refl _
        clear y2 y3 y4 yl yl2
        go_wp2
        refine wp_region_noPanic ?_
        refine wp_region_held_drew (S := fun w' => Bel wr w') (by kernel_rfl) (Bel.drew g0) (fun hHeld => ?_)
        refine tk 0 hHeld ?_; refine tk 1 hHeld ?_; refine tk 2 hHeld ?_; refine tk 3 hHeld ?_; refine tk 4 hHeld ?_; refine tk 5 hHeld ?_
        refine sk 6 hHeld ?_; refine sk 7 hHeld ?_; refine sk 8 hHeld ?_; refine sk 9 hHeld ?_; refine sk 10 hHeld ?_; refine sk 11 hHeld ?_
        refine sk 12 hHeld ?_; refine tk 13 hHeld ?_; refine tk 14 hHeld ?_
        refine wpAnyH_done (by kernel_rfl) ?_ _
        refine NoPanic.normal ?_
        go_wp2
        go_ret
        exact ⟨ret_bl HE.out, bel_step hBW (bel_step hbel hHeld)⟩
end Go.Proofs.YtdlgehnoiaoneaaGreatDoor
