/-
  What the program keeps of a row: the contract of its recursion.
-/
import Derived.Test.YtkknbapcbcialaaFarC
namespace Go.Proofs.Ytkknbapcbcialaa
open Go.RowKit

theorem infoP : (Try.prog.info? 29).map (fun i => (i.zero, i.size, i.bytes)) = some (some (.agg #[.int .i64 0, .int .i64 0]), 2, 16) := by kernel_rfl
theorem Own.shape {base : Nat} {w : World} {v : Value} {ps : List (Int × Int)} (h : Own base w v ps) : ∃ a c, v = .slice a ps.length c := by
  rcases h.2 with ⟨rfl, e⟩ | ⟨g, cap, cur, rfl, _⟩
  · exact ⟨none, 0, by rw [e]⟩
  · exact ⟨_, _, rfl⟩
theorem Own.row {base : Nat} {w : World} {a : Option Addr} {m c : Nat} {ps : List (Int × Int)} (h : Own base w (.slice a m c) ps) : ∀ k, (Value.slice a m c).ownBlock = some k → base ≤ k := fun k hk => (h.lt k hk).1
theorem Pts.take {w : World} {a : Option Addr} {n : Nat} {X Y : Nat → Int} (h : Pts w a n X Y) {m : Nat} (hm : m ≤ n) : Pts w a m X Y := by
  rcases h with h | ⟨b, off, h1, h2, h3⟩
  · exact .inl (by omega)
  · exact .inr ⟨b, off, h1, h2, fun i hi => h3 i (by omega)⟩

set_option maxRecDepth 100000 in
set_option maxHeartbeats 4000000 in
theorem keepFar_any {s : Int} (s0 : 0 ≤ s) : ∀ (f n : Nat), n ≤ f → ∀ (a : Option Addr) (c : Nat) (X Y : Nat → Int) (v : Value) (ps : List (Int × Int)) (w0 w : World), Pts w0 a n X Y → n ≤ c → n ≤ 2000 → (∀ i, i < n → POk (X i) (Y i)) →
    Own w0.heap.size w v ps → Bel w0 w → ps.length + n ≤ 5000 →
    Calls Try.prog 36 #[v, .slice a n c, .int .i64 s] w fun e w' => ∃ v', e = .returned v' ∧ Own w0.heap.size w' v' (ps ++ kp s f X Y n) ∧ Bel w0 w' := by
  intro f
  induction f with
  | zero =>
    intro n hn a c X Y v ps w0 w hP hc hn' hok hown hb hlen
    obtain rfl : n = 0 := by omega
    obtain ⟨av, cv, rfl⟩ := hown.shape
    go_enter Try.func36, Try.ntmps36
    go_wp2
    go_ret
    exact ⟨_, rfl, by rw [kp_few (by omega), List.append_nil]; exact hown, hb⟩
  | succ f ih =>
    intro n hn a c X Y v ps w0 w hP hc hn' hok hown hb hlen
    obtain ⟨av, cv, rfl⟩ := hown.shape
    by_cases h : n < 2
    · have h' : (n : Int) < 2 := by omega
      have HO : Hid (Own w0.heap.size w (.slice av ps.length cv) ps) := hown
      clear hown
      go_enter Try.func36, Try.ntmps36
      go_wp2
      go_ret
      exact ⟨_, rfl, by rw [kp_few h, List.append_nil]; exact HO.out, hb⟩
    · have h' : ¬ (n : Int) < 2 := by omega
      rcases hP with hz | ⟨b, off, rfl, h2, h3⟩
      · omega
      have hPw : Pts w (some ⟨b, off, none⟩) n X Y := .inr ⟨b, off, rfl, bel_lt hb h2, fun i hi => ⟨bel_cell hb h2 (h3 i hi).1, bel_cell hb h2 (h3 i hi).2⟩⟩
      have HP : Hid (∀ i, i < n → w0.cell? ⟨b, off + i * 2, none⟩ = some (.int .i64 (X i)) ∧ w0.cell? ⟨b, off + i * 2 + 1, none⟩ = some (.int .i64 (Y i))) := h3
      have HO : Hid (Own w0.heap.size w (.slice av ps.length cv) ps) := hown
      have IH : Hid _ := ih
      clear h3 hown ih
      go_enter Try.func36, Try.ntmps36
      go_wp2_with fail
      refine (farthest_any _ _ _ X Y _ hPw hn' (by omega) hok).mono ?_
      rintro e w1 ⟨rfl, hb1⟩
      have hB1 := bel_step hb hb1
      have hO1 := Own.bel HO.out hb1
      clear hPw hb1 HO
      by_cases k : gD (-1) X Y (n - 1) (n - 2) ≤ s
      · have c0 := bel_cell hB1 h2 (HP.out 0 (by omega)).1
        have c1 := bel_cell hB1 h2 (HP.out 0 (by omega)).2
        simp only [Nat.zero_mul, Nat.add_zero] at c0 c1
        have hn0 : (0 : Int) < (n : Int) := by omega
        obtain ⟨i0, hi, hz0, hz1, hz2⟩ := info_parts infoP
        have HO1 : Hid (Own w0.heap.size w1 (.slice av ps.length cv) ps) := hO1
        clear hO1
        go_wp2_with (first
          | (at_builtin; refine wpList_append_own _ rfl _ _ 24 rfl w0.heap.size 29 i0 (.agg #[.int .i64 0, .int .i64 0]) 2 16 Try.underlying24 hi hz0 hz1 hz2 rfl (by decide) _ _ _ rfl (World.ownsRow.alloc HO1.out _) ⟨w1.heap.size, 0, none⟩ 1 1 [.int .i64 (X 0), .int .i64 (Y 0)] rfl rfl ?c1 ?c2 ?c3 ?c4 ?c5 ?_)
          | go_in)
        case c1 =>
          intro j u hj
          match j, hj with
          | 0, hj => simp at hj; subst hj; simp [Addr.add]
          | 1, hj => simp at hj; subst hj; simp [Addr.add]
        case c2 => exact cellsP_one [(X 0, Y 0)]
        case c3 => unfold maxLen; omega
        case c4 => omega
        case c5 => have := hB1.out.size; simp; omega
        intro v' w2 hown' hgrow _
        have hown2 : Own w0.heap.size w2 v' (ps ++ [(X 0, Y 0)]) := by
          have e : cellsP (ps ++ [(X 0, Y 0)]) = cellsP ps ++ [.int .i64 (X 0), .int .i64 (Y 0)] := by simp [cellsP]
          have e' : (ps ++ [(X 0, Y 0)]).length = ps.length + 1 := by simp
          unfold Own
          rw [e, e']
          exact hown'
        have hB2 : Bel w0 w2 := bel_grown (bel_alloc hB1 _) hgrow HO1.out.row
        generalize hq : ps ++ [(X 0, Y 0)] = qs at hown2
        have HQ : Hid (ps ++ [(X 0, Y 0)] = qs) := hq
        obtain ⟨a2, c2, rfl⟩ := hown2.shape
        have HO2 : Hid (Own w0.heap.size w2 (.slice a2 qs.length c2) qs) := hown2
        clear hown2 hown' hgrow HO1 c0 c1 hq
        go_wp2
        go_ret
        exact ⟨_, rfl, by rw [kp_one h k, HQ.out]; exact HO2.out, hB2⟩
      · obtain ⟨_, _, a1, a2⟩ := (far_same s0 X Y (n - 1) (n - 2)).2 (by omega)
        have EK : Hid (kp s (f + 1) X Y n = _) := kp_two (f := f) h k
        generalize gA (-1) X Y (n - 1) (n - 2) = A at *
        have hw : IntKind.i64.wrap ((A : Int) + 1) = (A : Int) + 1 := by rw [IntKind.wrap_i64]; omega
        have hA0 : (0 : Int) ≤ (A : Int) := by omega
        have hA1 : (0 : Int) ≤ (A : Int) + 1 := by omega
        have hA2 : (A : Int) + 1 ≤ (c : Int) := by omega
        have hA3 : (A : Int) ≤ (n : Int) := by omega
        have hA4 : (A : Int) < (c : Int) := by omega
        have hA5 : (n : Int) ≤ (c : Int) := by omega
        have htn : ((A : Int) + 1).toNat = A + 1 := by omega
        have HO1 : Hid (Own w0.heap.size w1 (.slice av ps.length cv) ps) := hO1
        clear hO1
        have hl1 := kp_len s0 f X Y (A + 1) (by omega)
        have hP1 : Pts w0 (some ⟨b, off, none⟩) (A + 1) X Y := .inr ⟨b, off, rfl, h2, fun i hi => HP.out i (by omega)⟩
        have hP2 : Pts w0 (some ⟨b, off + A * 2, none⟩) (n - A) (fun i => X (A + i)) (fun i => Y (A + i)) := by
          refine .inr ⟨b, off + A * 2, rfl, h2, fun i hi => ?_⟩
          have := HP.out (A + i) (by omega)
          rw [show off + (A + i) * 2 = off + A * 2 + i * 2 by omega] at this
          exact this
        go_wp2_with fail
        refine (IH.out (A + 1) (by omega) _ c X Y _ ps w0 _ hP1 (by omega) (by omega) (fun i hi => hok i (by omega)) HO1.out hB1 (by omega)).mono ?_
        rintro e w2 ⟨v2, rfl, hown2, hB2⟩
        generalize hq : ps ++ kp s f X Y (A + 1) = qs at hown2
        have HQ : Hid (ps ++ kp s f X Y (A + 1) = qs) := hq
        have hq5 : qs.length + (n - A) ≤ 5000 := by rw [← hq, List.length_append]; omega
        obtain ⟨a3, c3, rfl⟩ := hown2.shape
        have HO2 : Hid (Own w0.heap.size w2 (.slice a3 qs.length c3) qs) := hown2
        clear hown2 HO1 hP1 hq
        go_wp2_with fail
        refine (IH.out (n - A) (by omega) _ (c - A) (fun i => X (A + i)) (fun i => Y (A + i)) _ qs w0 _ hP2 (by omega) (by omega) (fun i hi => hok (A + i) (by omega)) HO2.out hB2 hq5).mono ?_
        rintro e w3 ⟨v3, rfl, hown3, hB3⟩
        generalize hr : qs ++ kp s f (fun i => X (A + i)) (fun i => Y (A + i)) (n - A) = rs at hown3
        have HR : Hid (ps ++ kp s (f + 1) X Y n = rs) := by
          show ps ++ kp s (f + 1) X Y n = rs
          rw [EK.out, ← List.append_assoc, HQ.out, hr]
        obtain ⟨a4, c4, rfl⟩ := hown3.shape
        have HO3 : Hid (Own w0.heap.size w3 (.slice a4 rs.length c4) rs) := hown3
        clear hown3 HO2 hP2 hr HQ EK
        go_wp2
        go_ret
        exact ⟨_, rfl, by rw [HR.out]; exact HO3.out, hB3⟩
end Go.Proofs.Ytkknbapcbcialaa
