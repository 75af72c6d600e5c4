/-
  The place with an Id, in the model: contract.
-/
import Derived.Test.YtiagdabikbjbiaaGphP
import Derived.Test.YtiagdabikbjbiaaXC
import Derived.Test.YtiagdabikbjbiaaXD
namespace Go.Proofs.Ytiagdabikbjbiaa
open Go.RowKit

theorem spots_mono {l : List SpotD} (h : spotsP l) {i : Nat} : ∀ {j : Nat} (hj : j < l.length) (hij : i < j), (l[i]'(by omega)).id < l[j].id
  | 0, _, hij => absurd hij (Nat.not_lt_zero _)
  | j + 1, hj, hij => by
    have h1 := (h (j + 1) hj).2.2 (Nat.succ_pos _)
    simp only [Nat.add_sub_cancel] at h1
    by_cases e : i = j
    · subst e; exact h1
    · exact Int.lt_trans (spots_mono h (by omega) (by omega)) h1
/-- Where the place with this Id lies. -/
def spl (l : List SpotD) (x : Int) : Option Nat := (List.range l.length).find? fun i => (l[i]?).any fun s => decide (s.id = x)
theorem spl_some {l : List SpotD} (h : spotsP l) {x : Int} {p : Nat} (hp : p < l.length) (e : l[p].id = x) : spl l x = some p := by
  unfold spl
  rw [List.find?_eq_some_iff_getElem]
  refine ⟨by simp [hp, e], p, by simpa using hp, by simp, fun j hj => ?_⟩
  have hjl : j < l.length := by omega
  have := spots_mono h hp hj
  simp [hjl]
  omega
theorem spl_none {l : List SpotD} {x : Int} (h : ∀ i (hi : i < l.length), ¬ l[i].id = x) : spl l x = none := by
  unfold spl
  rw [List.find?_eq_none]
  intro i hi
  have hi' : i < l.length := List.mem_range.1 hi
  simp [hi', h i hi']
/-- Its number, or -1. -/
def splI (l : List SpotD) (x : Int) : Int := (spl l x).elim (-1) fun p => (p : Int)

set_option maxRecDepth 100000 in
set_option maxHeartbeats 2000000 in
theorem l9Place_any (a0 : Option Addr) (n c0 : Nat) (a1 : Option Addr) (n1 c1 : Nat) (a2 : Option Addr) (n2 c2 : Nat) (l : List SpotD) (bs : List Nat) (x : Int) (w : World) (hT : SpotL w a0 l bs) (hn : l.length = n) (hm : n ≤ 5000) (hA : spotsP l) :
    Calls Try.prog 24 #[gphV a0 n c0 a1 n1 c1 a2 n2 c2, .int .i64 x] w fun e w' => e = .returned (.int .i64 (splI l x)) ∧ Bel w w' := by
  have Hn : Hid (l.length = n) := hn
  have H : Hid (spotsP l) := hA
  clear hn hA
  obtain ⟨W, HW⟩ : ∃ W, Hid (W = w.alloc (.cells #[.slice a0 n c0, .slice a1 n1 c1, .slice a2 n2 c2] 34)) := ⟨_, (rfl : w.alloc (.cells #[.slice a0 n c0, .slice a1 n1 c1, .slice a2 n2 c2] 34) = _)⟩
  have hBW : Bel w W := by rw [HW.out]; exact bel_alloc (Bel.refl _) _
  have X0 : Blk W w.heap.size [.slice a0 n c0, .slice a1 n1 c1, .slice a2 n2 c2] := by rw [HW.out]; exact Blk.new w [.slice a0 n c0, .slice a1 n1 c1, .slice a2 n2 c2] _
  have y0 : W.cell? ⟨w.heap.size, 0, none⟩ = some (.slice a0 n c0) := X0.cell 0 (by simp)
  have yl := X0.lt
  have hTW := hT.bel spotE hBW
  clear hT X0
  go_enter Try.func24, Try.ntmps24
  go_wp2
  rw [← HW.out]
  go_wp2
  go_loopw [5, 6, 7] (fun lo hi _ wr => wr = W ∧ ∃ p q : Nat, p ≤ q ∧ q ≤ n ∧ lo = .int .i64 p ∧ hi = .int .i64 q ∧ Hid ((∀ i (h : i < l.length), i < p → l[i].id < x) ∧ ∀ i (h : i < l.length), q ≤ i → ¬ l[i].id < x)) (fun lo hi _ _ => (intOf hi).toNat - (intOf lo).toNat)
  case atStart => exact ⟨rfl, 0, n, Nat.zero_le _, Nat.le_refl _, rfl, rfl, (⟨fun i _ hi => absurd hi (Nat.not_lt_zero _), fun i h1 h2 => absurd h2 (by rw [Hn.out] at h1; omega)⟩ : (∀ i (h : i < l.length), i < 0 → l[i].id < x) ∧ ∀ i (h : i < l.length), n ≤ i → ¬ l[i].id < x)⟩
  case round =>
    obtain ⟨rfl, p, q, hpq, hqn, rfl, rfl, HS⟩ := hrel
    by_cases hlt : p < q
    · obtain ⟨k, hk⟩ : ∃ k, (p + q) / 2 = k := ⟨_, rfl⟩
      have hk1 : p ≤ k := by omega
      have hk2 : k < q := by omega
      have hki : ((p : Int) + q) / 2 = k := by omega
      have hkn : (k : Int) < (n : Int) := by omega
      have hkl : k < l.length := by rw [Hn.out]; omega
      obtain ⟨b, off, ff, rfl, hb, hx⟩ := hTW.out hkl
      obtain ⟨_, _, _, _, z0, _⟩ := hx k hkl
      obtain ⟨d, Hd⟩ : ∃ d, Hid (d = l[k].id) := ⟨_, (rfl : l[k].id = _)⟩
      rw [← Hd.out] at z0
      clear hx hk
      by_cases hr : d < x
      · have HS2 : Hid ((∀ i (h : i < l.length), i < k + 1 → l[i].id < x) ∧ ∀ i (h : i < l.length), q ≤ i → ¬ l[i].id < x) := ⟨fun i h hi => by
            have hd : l[k].id < x := by rw [← Hd.out]; exact hr
            by_cases e : i = k
            · subst e; exact hd
            · exact Int.lt_trans (spots_mono H.out hkl (by omega)) hd, HS.out.2⟩
        go_wp2
        go_roundw
        case rel => exact ⟨trivial, k + 1, q, by omega, hqn, by go_num, rfl, HS2⟩
        case measure => simp [intOf]; omega
      · have HS2 : Hid ((∀ i (h : i < l.length), i < p → l[i].id < x) ∧ ∀ i (h : i < l.length), k ≤ i → ¬ l[i].id < x) := ⟨HS.out.1, fun i h hi hlt' => by
            have hd : ¬ l[k].id < x := by rw [← Hd.out]; exact hr
            by_cases e : i = k
            · subst e; exact hd hlt'
            · exact hd (Int.lt_trans (spots_mono H.out h (by omega)) hlt')⟩
        go_wp2
        go_roundw
        case rel => exact ⟨trivial, p, k, hk1, by omega, rfl, by rw [hki], HS2⟩
        case measure => simp [intOf]; omega
    · obtain rfl : p = q := by omega
      by_cases hpn : p < n
      · have hpI : (p : Int) < (n : Int) := by omega
        have hkl : p < l.length := by rw [Hn.out]; omega
        obtain ⟨b, off, ff, rfl, hb, hx⟩ := hTW.out hkl
        obtain ⟨_, _, _, _, z0, _⟩ := hx p hkl
        obtain ⟨d, Hd⟩ : ∃ d, Hid (d = l[p].id) := ⟨_, (rfl : l[p].id = _)⟩
        rw [← Hd.out] at z0
        clear hx
        by_cases he : d = x
        · have HE : Hid ((p : Int) = splI l x) := show (p : Int) = splI l x by unfold splI; rw [spl_some H.out hkl (by rw [← Hd.out]; exact he)]; rfl
          have hq : (d == x) = true := by rw [beq_iff_eq]; exact he
          clear he
          go_wp2
          go_ret
          exact ⟨ret_num HE.out, hBW⟩
        · have HE : Hid (-1 = splI l x) := show -1 = splI l x by
            unfold splI
            rw [spl_none fun i hi e => ?_]
            · rfl
            · by_cases c1 : i < p
              · have := HS.out.1 i hi c1; omega
              · by_cases c2 : i = p
                · subst c2; exact he (by rw [Hd.out]; exact e)
                · have h3 := spots_mono H.out hi (show p < i by omega)
                  exact HS.out.2 p hkl (Nat.le_refl _) (by omega)
          have hq : (d == x) = false := by rw [beq_eq_false_iff_ne]; exact he
          clear he
          go_wp2
          go_ret
          exact ⟨ret_num HE.out, hBW⟩
      · have HE : Hid (-1 = splI l x) := show -1 = splI l x by
          unfold splI
          rw [spl_none fun i hi e => by have := HS.out.1 i hi (by rw [Hn.out] at hi; omega); omega]
          rfl
        have hge : ¬ (p : Int) < (n : Int) := by omega
        go_wp2
        go_ret
        exact ⟨ret_num HE.out, hBW⟩
end Go.Proofs.Ytiagdabikbjbiaa
