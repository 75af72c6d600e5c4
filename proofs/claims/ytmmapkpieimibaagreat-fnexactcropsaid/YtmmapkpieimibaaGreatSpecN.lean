/-
  Contracts of the model's small functions: an Id can be; at which place a node or a way stands.
-/
import Derived.Test.YtmmapkpieimibaaGreatChartF
namespace Go.Proofs.YtmmapkpieimibaaGreat
open Go.RowKit Go.Maps

def idB (x : Int) : Bool := decide (1 ≤ x) && decide (x ≤ 1000000000)
theorem l2IdOk_any (x : Int) (w : World) :
    Calls Tryz.prog 73 #[.int .i64 x] w fun e w' => e = .returned (.bool (idB x)) ∧ w' = w := by
  by_cases h1 : 1 ≤ x <;> by_cases h2 : x ≤ 1000000000 <;> (
    go_enter Tryz.func73, Tryz.ntmps73
    go_wp2
    go_ret
    exact ⟨ret_bl (by unfold idB; simp <;> omega), rfl⟩)

/-- The place of an Id, -1 where there is none. -/
def posI (I : Nat → Int) (n : Nat) (x : Int) : Int := (plc I n x).getD (-1)
theorem posI_at {n : Nat} {I : Nat → Int} {T : Nat → Bool} (h : AscP n I T) {i : Nat} (hi : i < n) : posI I n (I i) = i := by
  unfold posI
  rw [plc_at hi (fun j h1 h2 e => by have := h.mono h1 h2; omega)]
  rfl
theorem posI_none {n : Nat} {I : Nat → Int} {x : Int} (h : ¬ HasI n I x) : posI I n x = -1 := by
  have := plc_some I x n
  rw [bP_false h] at this
  unfold posI
  rw [Option.isSome_eq_false_iff] at this
  rw [Option.isNone_iff_eq_none.1 this]
  rfl
theorem plc_bd (I : Nat → Int) (x : Int) : ∀ n k, plc I n x = some k → 0 ≤ k ∧ k < n
  | 0, _, h => by cases h
  | n + 1, k, h => by
    simp only [plc] at h
    split at h
    · injection h with h; omega
    · have := plc_bd I x n k h; omega
theorem posI_bd (I : Nat → Int) (n : Nat) (x : Int) : -1 ≤ posI I n x ∧ posI I n x < n ∧ (0 ≤ posI I n x ↔ HasI n I x) := by
  unfold posI
  cases h : plc I n x with
  | none =>
    have := plc_some I x n
    rw [h] at this
    exact ⟨by simp, by simp; omega, by simp; exact bP_not this.symm⟩
  | some k =>
    have h1 := plc_bd I x n k h
    have := plc_some I x n
    rw [h] at this
    exact ⟨by simp; omega, by simpa using h1.2, by simp [h1.1]; exact bP_out this.symm⟩

theorem nodes_id {w : World} {a : Option Addr} {l : List NodeD} {bs : List Nat} (h : Nodes w a l bs) {i : Nat} (hi : i < l.length) : ∃ b off, a = some ⟨b, off, none⟩ ∧ b < w.heap.size ∧ w.cell? ⟨b, off + i * 4, none⟩ = some (.int .i64 (nId l i)) := by
  obtain ⟨b, off, f, ha, hb, hx⟩ := h.out hi
  obtain ⟨_, _, _, c0, _⟩ := hx i hi
  exact ⟨b, off, ha, hb, by rw [nId_at hi]; exact c0⟩
theorem ways_id {w : World} {a : Option Addr} {l : List WayD} {bs : List Nat} (h : Ways w a l bs) {i : Nat} (hi : i < l.length) : ∃ b off, a = some ⟨b, off, none⟩ ∧ b < w.heap.size ∧ w.cell? ⟨b, off + i * 3, none⟩ = some (.int .i64 (wId l i)) := by
  obtain ⟨b, off, f, ha, hb, hx⟩ := h.out hi
  obtain ⟨_, c0, _⟩ := hx i hi
  exact ⟨b, off, ha, hb, by rw [wId_at hi]; exact c0⟩

set_option maxRecDepth 100000 in
set_option maxHeartbeats 1000000 in
theorem l2Node_any (v : Value) (m : MapD) (bs : List Nat) (x : Int) (w : World) (hV : MapV w v m bs) (hl : m.nodes.length ≤ 5000) (hA : AscP m.nodes.length (nId m.nodes) (nTg m.nodes)) :
    Calls Tryz.prog 23 #[v, .int .i64 x] w fun e w' => e = .returned (.int .i64 (posI (nId m.nodes) m.nodes.length x)) ∧ Bel w w' := by
  obtain ⟨a0, c0, a1, c1, a2, c2, b0, b1, b2, rfl, _, t0, _, _⟩ := hV.out
  obtain ⟨n, hn⟩ : ∃ n, m.nodes.length = n := ⟨_, rfl⟩
  obtain ⟨I, hI⟩ : ∃ I, nId m.nodes = I := ⟨_, rfl⟩
  have H : Hid (AscP n I (nTg m.nodes)) := by rw [← hn, ← hI]; exact hA
  have hB : Bel w (w.alloc (.cells #[.slice a0 m.nodes.length c0, .slice a1 m.ways.length c1, .slice a2 m.areas.length c2] 36)) := bel_alloc (Bel.refl _) _
  have t0' := t0.bel nodeE hB
  have hx : ∀ i, i < n → ∃ b off, a0 = some ⟨b, off, none⟩ ∧ b < (w.alloc (.cells #[.slice a0 m.nodes.length c0, .slice a1 m.ways.length c1, .slice a2 m.areas.length c2] 36)).heap.size ∧ (w.alloc (.cells #[.slice a0 m.nodes.length c0, .slice a1 m.ways.length c1, .slice a2 m.areas.length c2] 36)).cell? ⟨b, off + i * 4, none⟩ = some (.int .i64 (I i)) := fun i hi => by
    rw [← hI]; exact nodes_id t0' (by rw [hn]; exact hi)
  have HX : Hid _ := hx
  rw [hn, hI]
  rw [hn] at hl hB HX
  clear hV t0 t0' hA hx hn hI
  go_enter Tryz.func23, Tryz.ntmps23
  go_wp2
  go_loop [5, 6, 7] (fun lo hi _ => ∃ p q : Nat, p ≤ q ∧ q ≤ n ∧ lo = .int .i64 p ∧ hi = .int .i64 q ∧ Hid ((∀ i, i < p → I i < x) ∧ ∀ i, q ≤ i → i < n → x ≤ I i)) (fun lo hi _ => (intOf hi).toNat - (intOf lo).toNat)
  case atStart => exact ⟨0, n, Nat.zero_le _, Nat.le_refl _, rfl, rfl, ⟨fun i hi => absurd hi (Nat.not_lt_zero _), fun i h1 h2 => absurd h2 (Nat.not_lt.2 h1)⟩⟩
  case round =>
    obtain ⟨p, q, hpq, hqn, rfl, rfl, HS⟩ := hrel
    by_cases hlt : p < q
    · obtain ⟨k, hk⟩ : ∃ k, (p + q) / 2 = k := ⟨_, rfl⟩
      have hk1 : p ≤ k := by omega
      have hk2 : k < q := by omega
      have hki : ((p : Int) + q) / 2 = k := by omega
      have hkn : (k : Int) < (n : Int) := by omega
      obtain ⟨b, off, rfl, hb, cx⟩ := HX.out k (by omega)
      by_cases hc : I k < x
      · go_wp2
        go_round
        case rel => exact ⟨k + 1, q, by omega, hqn, by go_num, rfl, ⟨fun i hi => by
            by_cases e : i = k
            · subst e; exact hc
            · by_cases e2 : i < k
              · have := H.out.mono e2 (by omega); omega
              · omega, HS.out.2⟩⟩
        case measure => simp [intOf]; omega
      · go_wp2
        go_round
        case rel => exact ⟨p, k, hk1, by omega, rfl, by rw [hki], ⟨HS.out.1, fun i h1 h2 => by
            by_cases e : i = k
            · subst e; omega
            · have := H.out.mono (show k < i by omega) h2; omega⟩⟩
        case measure => simp [intOf]; omega
    · obtain rfl : p = q := by omega
      by_cases hn : p < n
      · have hpn : (p : Int) < (n : Int) := by omega
        obtain ⟨b, off, rfl, hb, cx⟩ := HX.out p hn
        by_cases he : I p = x
        · have HE : Hid (posI I n x = p) := by rw [← he]; exact posI_at H.out hn
          have he' : (I p == x) = true := by simp [he]
          go_wp2
          go_ret
          exact ⟨ret_num HE.out.symm, hB⟩
        · have HE : Hid (posI I n x = -1) := posI_none fun ⟨i, hi, e⟩ => by
            by_cases h1 : i < p
            · have := HS.out.1 i h1; omega
            · by_cases h2 : i = p
              · subst h2; exact he e
              · have h3 := HS.out.2 p (Nat.le_refl _) hn
                have h4 := H.out.mono (show p < i by omega) hi
                omega
          have he' : (I p == x) = false := by simp [he]
          go_wp2
          go_ret
          exact ⟨ret_num HE.out.symm, hB⟩
      · have HE : Hid (posI I n x = -1) := posI_none fun ⟨i, hi, e⟩ => by have := HS.out.1 i (by omega); omega
        go_wp2
        go_ret
        exact ⟨ret_num HE.out.symm, hB⟩

set_option maxRecDepth 100000 in
set_option maxHeartbeats 1000000 in
theorem l2Way_any (v : Value) (m : MapD) (bs : List Nat) (x : Int) (w : World) (hV : MapV w v m bs) (hl : m.ways.length ≤ 1000) (hA : AscP m.ways.length (wId m.ways) (wTg m.ways)) :
    Calls Tryz.prog 26 #[v, .int .i64 x] w fun e w' => e = .returned (.int .i64 (posI (wId m.ways) m.ways.length x)) ∧ Bel w w' := by
  obtain ⟨a0, c0, a1, c1, a2, c2, b0, b1, b2, rfl, _, _, t0, _⟩ := hV.out
  obtain ⟨n, hn⟩ : ∃ n, m.ways.length = n := ⟨_, rfl⟩
  obtain ⟨I, hI⟩ : ∃ I, wId m.ways = I := ⟨_, rfl⟩
  have H : Hid (AscP n I (wTg m.ways)) := by rw [← hn, ← hI]; exact hA
  have hB : Bel w (w.alloc (.cells #[.slice a0 m.nodes.length c0, .slice a1 m.ways.length c1, .slice a2 m.areas.length c2] 36)) := bel_alloc (Bel.refl _) _
  have t0' := t0.bel wayE hB
  have hx : ∀ i, i < n → ∃ b off, a1 = some ⟨b, off, none⟩ ∧ b < (w.alloc (.cells #[.slice a0 m.nodes.length c0, .slice a1 m.ways.length c1, .slice a2 m.areas.length c2] 36)).heap.size ∧ (w.alloc (.cells #[.slice a0 m.nodes.length c0, .slice a1 m.ways.length c1, .slice a2 m.areas.length c2] 36)).cell? ⟨b, off + i * 3, none⟩ = some (.int .i64 (I i)) := fun i hi => by
    rw [← hI]; exact ways_id t0' (by rw [hn]; exact hi)
  have HX : Hid _ := hx
  rw [hn, hI]
  rw [hn] at hl hB HX
  clear hV t0 t0' hA hx hn hI
  go_enter Tryz.func26, Tryz.ntmps26
  go_wp2
  go_loop [5] (fun i => ∃ k : Nat, k ≤ n ∧ i = .int .i64 k ∧ Hid (∀ j, j < k → I j ≠ x)) (fun i => n - (intOf i).toNat)
  case atStart => exact ⟨0, Nat.zero_le _, rfl, (fun j hj => absurd hj (Nat.not_lt_zero _) : ∀ j, j < 0 → I j ≠ x)⟩
  case round =>
    obtain ⟨k, hk, rfl, HS⟩ := hrel
    by_cases hlt : k < n
    · obtain ⟨b, off, rfl, hb, cx⟩ := HX.out k hlt
      by_cases he : I k = x
      · have HE : Hid (posI I n x = k) := by rw [← he]; exact posI_at H.out hlt
        have he' : (I k == x) = true := by simp [he]
        go_wp2
        go_ret
        exact ⟨ret_num HE.out.symm, hB⟩
      · have he' : (I k == x) = false := by simp [he]
        have HN : Hid (I k ≠ x) := he
        clear he
        go_wp2
        go_round
        case rel => exact ⟨k + 1, by omega, by go_num, (fun j hj => by
            by_cases e : j = k
            · subst e; exact HN.out
            · exact HS.out j (by omega) : ∀ j, j < k + 1 → I j ≠ x)⟩
        case measure => simp [intOf]; omega
    · have HE : Hid (posI I n x = -1) := posI_none fun ⟨i, hi, e⟩ => HS.out i (by omega) e
      go_wp2
      go_ret
      exact ⟨ret_num HE.out.symm, hB⟩
end Go.Proofs.YtmmapkpieimibaaGreat
