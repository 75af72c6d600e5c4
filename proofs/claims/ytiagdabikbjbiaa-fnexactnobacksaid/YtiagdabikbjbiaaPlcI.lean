/-
  The place with an Id, in the program (slices.BinarySearchFunc at places): contracts.
-/
import Derived.Test.YtiagdabikbjbiaaPlcS
import Derived.Test.YtiagdabikbjbiaaXC
namespace Go.Proofs.Ytiagdabikbjbiaa
open Go.RowKit

theorem placeCmp_any (d : SpotD) (x : Int) (w : World) :
    Calls Try.prog 73 #[.agg #[.int .i64 d.id, .int .i64 d.x, .int .i64 d.y], .int .i64 x] w fun e w' => e = .returned (.int .i64 (cpz d.id x)) ∧ Bel w w' := by
  obtain ⟨W, HW⟩ : ∃ W, Hid (W = w.alloc (.cells #[.int .i64 d.id, .int .i64 d.x, .int .i64 d.y] 83)) := ⟨_, (rfl : w.alloc (.cells #[.int .i64 d.id, .int .i64 d.x, .int .i64 d.y] 83) = _)⟩
  have hBW : Bel w W := by rw [HW.out]; exact bel_alloc (Bel.refl _) _
  have X0 : Blk W w.heap.size [.int .i64 d.id, .int .i64 d.x, .int .i64 d.y] := by rw [HW.out]; exact Blk.new w [.int .i64 d.id, .int .i64 d.x, .int .i64 d.y] _
  have y0 : W.cell? ⟨w.heap.size, 0, none⟩ = some (.int .i64 d.id) := X0.cell 0 (by simp)
  have yl := X0.lt
  clear X0
  go_enter Try.func73, Try.ntmps73
  go_wp2_with fail
  rw [← HW.out]
  refine (compare64_any _ _ _).mono ?_
  rintro e w1 ⟨rfl, rfl⟩
  go_wp2
  go_ret
  exact ⟨rfl, hBW⟩

theorem ret_ib {a b : Int} {c d : Bool} (h : a = b) (k : c = d) : Ending.returned (.tuple #[.int .i64 a, .bool c]) = .returned (.tuple #[.int .i64 b, .bool d]) := by rw [h, k]
theorem cpz_lt {a b : Int} : cpz a b < 0 ↔ a < b := by unfold cpz; split <;> (try split) <;> omega
theorem cpz_eq {a b : Int} : cpz a b = 0 ↔ a = b := by unfold cpz; split <;> (try split) <;> omega

set_option maxRecDepth 100000 in
set_option maxHeartbeats 2000000 in
theorem searchSpot_any (a0 : Option Addr) (n c0 : Nat) (l : List SpotD) (bs : List Nat) (x : Int) (w : World) (hT : SpotL w a0 l bs) (hn : l.length = n) (hm : n ≤ 5000) (hA : spotsP l) :
    Calls Try.prog 72 #[.slice a0 n c0, .int .i64 x, .func (.func 73) #[] #[]] w fun e w' => ∃ p : Nat, e = .returned (.tuple #[.int .i64 (p : Int), .bool (spl l x).isSome]) ∧ (∀ k, spl l x = some k → p = k) ∧ p ≤ n ∧ Bel w w' := by
  have Hn : Hid (l.length = n) := hn
  have H : Hid (spotsP l) := hA
  clear hn hA
  go_enter Try.func72, Try.ntmps72
  go_wp2
  go_loopw [9, 10, 11] (fun lo hi _ wr => ∃ p q : Nat, p ≤ q ∧ q ≤ n ∧ lo = .int .i64 p ∧ hi = .int .i64 q ∧ Hid ((∀ i (h : i < l.length), i < p → l[i].id < x) ∧ ∀ i (h : i < l.length), q ≤ i → ¬ l[i].id < x) ∧ Bel w wr) (fun lo hi _ _ => (intOf hi).toNat - (intOf lo).toNat)
  case atStart => exact ⟨0, n, Nat.zero_le _, Nat.le_refl _, rfl, rfl, (⟨fun i _ hi => absurd hi (Nat.not_lt_zero _), fun i h1 h2 => absurd h2 (by rw [Hn.out] at h1; omega)⟩ : (∀ i (h : i < l.length), i < 0 → l[i].id < x) ∧ ∀ i (h : i < l.length), n ≤ i → ¬ l[i].id < x), Bel.refl _⟩
  case round =>
    obtain ⟨p, q, hpq, hqn, rfl, rfl, HS, hbel⟩ := hrel
    by_cases hlt : p < q
    · obtain ⟨k, hk⟩ : ∃ k, (p + q) / 2 = k := ⟨_, rfl⟩
      have hk1 : p ≤ k := by omega
      have hk2 : k < q := by omega
      have hki : ((p : Int) + q) / 2 = k := by omega
      have hkn : (k : Int) < (n : Int) := by omega
      have hkl : k < l.length := by rw [Hn.out]; omega
      obtain ⟨b, off, ff, rfl, hb, hx⟩ := (hT.bel spotE hbel).out hkl
      obtain ⟨_, _, _, _, z0, z1, z2⟩ := hx k hkl
      obtain ⟨d, Hd⟩ : ∃ d, Hid (d = l[k]) := ⟨_, (rfl : l[k] = _)⟩
      rw [← Hd.out] at z0 z1 z2
      obtain ⟨r, HR⟩ : ∃ r, Hid (cpz d.id x = r) := ⟨_, (rfl : cpz d.id x = _)⟩
      have cB : ∀ w, Calls Try.prog 73 #[.agg #[.int .i64 d.id, .int .i64 d.x, .int .i64 d.y], .int .i64 x] w fun e w' => e = .returned (.int .i64 r) ∧ Bel w w' := fun w => by rw [← HR.out]; exact placeCmp_any d x w
      clear hx
      by_cases hr : r < 0
      · have hd : l[k].id < x := by rw [← Hd.out]; exact cpz_lt.1 (by rw [HR.out]; exact hr)
        have HS2 : Hid ((∀ i (h : i < l.length), i < k + 1 → l[i].id < x) ∧ ∀ i (h : i < l.length), q ≤ i → ¬ l[i].id < x) := ⟨fun i h hi => by
            by_cases e : i = k
            · subst e; exact hd
            · exact Int.lt_trans (spots_mono H.out hkl (by omega)) hd, HS.out.2⟩
        clear HS hd
        go_wp2_with fail
        refine (cB _).mono ?_
        rintro e w1 ⟨rfl, hb1⟩
        go_wp2
        go_roundw
        case rel => exact ⟨k + 1, q, by omega, hqn, by go_num, rfl, by simpa using HS2, bel_step hbel hb1⟩
        case measure => simp [intOf]; omega
      · have hd : ¬ l[k].id < x := by rw [← Hd.out]; exact fun h => hr (by rw [← HR.out]; exact cpz_lt.2 h)
        have HS2 : Hid ((∀ i (h : i < l.length), i < p → l[i].id < x) ∧ ∀ i (h : i < l.length), k ≤ i → ¬ l[i].id < x) := ⟨HS.out.1, fun i h hi hlt' => by
            by_cases e : i = k
            · subst e; exact hd hlt'
            · exact hd (Int.lt_trans (spots_mono H.out h (by omega)) hlt')⟩
        clear HS hd
        go_wp2_with fail
        refine (cB _).mono ?_
        rintro e w1 ⟨rfl, hb1⟩
        go_wp2
        go_roundw
        case rel => exact ⟨p, k, hk1, by omega, rfl, rfl, by simpa using HS2, bel_step hbel hb1⟩
        case measure => simp [intOf]; omega
    · obtain rfl : p = q := by omega
      by_cases hpn : p < n
      · have hpI : (p : Int) < (n : Int) := by omega
        have hkl : p < l.length := by rw [Hn.out]; omega
        obtain ⟨b, off, ff, rfl, hb, hx⟩ := (hT.bel spotE hbel).out hkl
        obtain ⟨_, _, _, _, z0, z1, z2⟩ := hx p hkl
        obtain ⟨d, Hd⟩ : ∃ d, Hid (d = l[p]) := ⟨_, (rfl : l[p] = _)⟩
        rw [← Hd.out] at z0 z1 z2
        obtain ⟨r, HR⟩ : ∃ r, Hid (cpz d.id x = r) := ⟨_, (rfl : cpz d.id x = _)⟩
        have cB : ∀ w, Calls Try.prog 73 #[.agg #[.int .i64 d.id, .int .i64 d.x, .int .i64 d.y], .int .i64 x] w fun e w' => e = .returned (.int .i64 r) ∧ Bel w w' := fun w => by rw [← HR.out]; exact placeCmp_any d x w
        clear hx
        by_cases he : d.id = x
        · have HE : Hid (spl l x = some p) := spl_some H.out hkl (by rw [← Hd.out]; exact he)
          have hr : (r == 0) = true := by rw [beq_iff_eq, ← HR.out]; exact cpz_eq.2 he
          clear he HS
          go_wp2_with fail
          refine (cB _).mono ?_
          rintro e w1 ⟨rfl, hb1⟩
          go_wp2
          go_ret2
          exact ⟨p, ret_ib rfl (by rw [HE.out]; rfl), fun k hk => by rw [HE.out] at hk; exact Option.some.inj hk, by omega, bel_step hbel hb1⟩
        · have HE : Hid (spl l x = none) := spl_none fun i hi e => by
            by_cases c1 : i < p
            · have := HS.out.1 i hi c1; omega
            · by_cases c2 : i = p
              · subst c2; exact he (by rw [Hd.out]; exact e)
              · have h3 := spots_mono H.out hi (show p < i by omega)
                exact HS.out.2 p hkl (Nat.le_refl _) (by omega)
          have hr : (r == 0) = false := by rw [beq_eq_false_iff_ne, ← HR.out]; exact fun h => he (cpz_eq.1 h)
          clear he HS
          go_wp2_with fail
          refine (cB _).mono ?_
          rintro e w1 ⟨rfl, hb1⟩
          go_wp2
          go_ret2
          exact ⟨p, ret_ib rfl (by rw [HE.out]; rfl), fun k hk => (by rw [HE.out] at hk; cases hk), by omega, bel_step hbel hb1⟩
      · have HE : Hid (spl l x = none) := spl_none fun i hi e => by have := HS.out.1 i hi (by rw [Hn.out] at hi; omega); omega
        have hge : ¬ (p : Int) < (n : Int) := by omega
        clear HS
        go_wp2
        go_ret2
        exact ⟨p, ret_ib rfl (by rw [HE.out]; rfl), fun k hk => (by rw [HE.out] at hk; cases hk), by omega, hbel⟩

set_option maxRecDepth 100000 in
set_option maxHeartbeats 2000000 in
theorem placeOf_any (a0 : Option Addr) (n c0 : Nat) (a1 : Option Addr) (n1 c1 : Nat) (a2 : Option Addr) (n2 c2 : Nat) (l : List SpotD) (bs : List Nat) (x : Int) (w : World) (hT : SpotL w a0 l bs) (hn : l.length = n) (hm : n ≤ 5000) (hA : spotsP l) :
    Calls Try.prog 55 #[gphV a0 n c0 a1 n1 c1 a2 n2 c2, .int .i64 x] w fun e w' => ∃ p : Nat, e = .returned (.tuple #[.int .i64 (p : Int), .bool (spl l x).isSome]) ∧ (∀ k, spl l x = some k → p = k) ∧ p ≤ n ∧ Bel w w' := by
  obtain ⟨W, HW⟩ : ∃ W, Hid (W = w.alloc (.cells #[.slice a0 n c0, .slice a1 n1 c1, .slice a2 n2 c2] 34)) := ⟨_, (rfl : w.alloc (.cells #[.slice a0 n c0, .slice a1 n1 c1, .slice a2 n2 c2] 34) = _)⟩
  have hBW : Bel w W := by rw [HW.out]; exact bel_alloc (Bel.refl _) _
  have X0 : Blk W w.heap.size [.slice a0 n c0, .slice a1 n1 c1, .slice a2 n2 c2] := by rw [HW.out]; exact Blk.new w [.slice a0 n c0, .slice a1 n1 c1, .slice a2 n2 c2] _
  have y0 : W.cell? ⟨w.heap.size, 0, none⟩ = some (.slice a0 n c0) := X0.cell 0 (by simp)
  have yl := X0.lt
  have HC := searchSpot_any a0 n c0 l bs x W (hT.bel spotE hBW) hn hm hA
  obtain ⟨f, Hf⟩ : ∃ f, Hid ((spl l x).isSome = f) := ⟨_, (rfl : (spl l x).isSome = _)⟩
  rw [Hf.out] at HC ⊢
  clear X0 hT hn hA
  go_enter Try.func55, Try.ntmps55
  go_upto_region 1 with fail
  rw [← HW.out]
  go_wp2_with fail
  refine HC.mono ?_
  rintro e w1 ⟨p, rfl, hp, hpn, hb1⟩
  have HP : Hid (∀ k, spl l x = some k → p = k) := hp
  clear hp
  go_wp2
  go_ret2
  exact ⟨p, rfl, HP.out, hpn, bel_step hBW hb1⟩
end Go.Proofs.Ytiagdabikbjbiaa
