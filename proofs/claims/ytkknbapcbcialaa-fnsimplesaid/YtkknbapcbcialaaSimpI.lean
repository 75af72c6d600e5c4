/-
  Simplify in the program: its contract, for every row of at most 2 to the 20th points.
-/
import Derived.Test.YtkknbapcbcialaaKeepC
namespace Go.Proofs.Ytkknbapcbcialaa
open Go.RowKit

/-- What both keep of a row. -/
def sq (s : Int) (n : Nat) (X Y : Nat → Int) : List (Int × Int) := if rowB n X Y && decide (0 ≤ s) then sl s n X Y n else []
theorem sq_yes {s : Int} {n : Nat} {X Y : Nat → Int} (h : rowB n X Y = true) (k : 0 ≤ s) : sq s n X Y = sl s n X Y n := by simp [sq, h, k]
theorem sq_no {s : Int} {n : Nat} {X Y : Nat → Int} (h : rowB n X Y = false ∨ s < 0) : sq s n X Y = [] := by
  rcases h with h | h
  · simp [sq, h]
  · simp [sq, show ¬ 0 ≤ s by omega]
theorem sq_none {s : Int} {X Y : Nat → Int} : sq s 0 X Y = [] := by
  unfold sq
  split <;> rfl

theorem PtAt.news {w : World} {B : Nat} {x y : Int} (h : PtAt w B x y) : ∀ (j : Nat) (u : Value), [Value.int .i64 x, .int .i64 y][j]? = some u → w.cell? ((⟨B, 0, none⟩ : Addr).add j) = some u := by
  intro j u hj
  match j, hj with
  | 0, hj => simp at hj; subst hj; simpa [Addr.add] using h.c0
  | 1, hj => simp at hj; subst hj; simpa [Addr.add] using h.c1
/-- One point more. -/
theorem Own.more {base : Nat} {w : World} {v : Value} {ps : List (Int × Int)} {x y : Int} (h : w.ownsRow base 29 2 v (ps.length + 1) (cellsP ps ++ [.int .i64 x, .int .i64 y])) : Own base w v (ps ++ [(x, y)]) := by
  have e : cellsP (ps ++ [(x, y)]) = cellsP ps ++ [.int .i64 x, .int .i64 y] := by simp [cellsP]
  have e' : (ps ++ [(x, y)]).length = ps.length + 1 := by simp
  unfold Own
  rw [e, e']
  exact h

set_option maxRecDepth 100000 in
set_option maxHeartbeats 4000000 in
theorem simplify_ok (a : Option Addr) (n c : Nat) (X Y : Nat → Int) (s : Int) (w : World) (hP : Pts w a n X Y) (hc : n ≤ c) (hn : n ≤ 1048576) (hr : rowB n X Y = true) (hn0 : 0 < n) (s0 : 0 ≤ s) :
    Calls Try.prog 10 #[.slice a n c, .int .i64 s] w fun e w' => ∃ v', e = .returned v' ∧ Own w.heap.size w' v' (sl s n X Y n) ∧ Bel w w' := by
  obtain ⟨hn', hok⟩ := rowB_out hr
  have hs0 : ¬ s < 0 := by omega
  obtain ⟨m, rfl⟩ : ∃ m, n = m + 1 := ⟨n - 1, by omega⟩
  have hne : ((m : Int) + 1 == 0) = false := by simp; omega
  have hne' : ¬ (m : Int) + 1 = 0 := by omega
  rcases hP with h | ⟨b, off, rfl, h2, h3⟩
  · omega
  have hP : Pts w (some ⟨b, off, none⟩) (m + 1) X Y := .inr ⟨b, off, rfl, h2, h3⟩
  have d0 := (h3 m (by omega)).1
  have d1 := (h3 m (by omega)).2
  have HP : Hid (Pts w (some ⟨b, off, none⟩) (m + 1) X Y) := hP
  clear h3
  go_enter Try.func10, Try.ntmps10
  go_wp2_with fail
  refine (rowOk_any _ _ _ _ _ _ hP hn).mono ?_
  rintro e w1 ⟨rfl, hb1⟩
  have hwn : IntKind.i64.wrap (m : Int) = (m : Int) := by rw [IntKind.wrap_i64]; omega
  have hn1 : (0 : Int) ≤ (m : Int) := by omega
  have hn2 : (m : Int) < (m : Int) + 1 := by omega
  have hR : ∀ w', Bel w1 w' → w'.cell? ⟨b, off + m * 2, none⟩ = some (.int .i64 (X m)) ∧ w'.cell? ⟨b, off + m * 2 + 1, none⟩ = some (.int .i64 (Y m)) :=
    fun w' h => ⟨bel_cell (bel_step hb1 h) h2 d0, bel_cell (bel_step hb1 h) h2 d1⟩
  have g0 : Bel w1 w1 := Bel.refl _
  have HL : Hid ((kp s (m + 1) X Y (m + 1)).length ≤ m) := kp_len s0 (m + 1) X Y (m + 1) (Nat.le_refl _)
  obtain ⟨i0, hi, hz0, hz1, hz2⟩ := info_parts infoP
  clear hP d0 d1
  go_wp2
  go_region_held3 (fun w' => Bel w1 w') (with_reducible (repeat (first | exact g0 | refine Bel.drew ?_ | refine bel_alloc ?_ _ | assumption | refine bel_then (by assumption) ?_)))
    (first
      | (go_at_call 36; refine (keepFar_any s0 (m + 1) (m + 1) (Nat.le_refl _) _ c X Y _ [] _ _ (HP.out.bel (bel_step hb1 (by with_reducible (repeat (first | exact g0 | refine Bel.drew ?_ | refine bel_alloc ?_ _))))) hc hn' hok (World.ownsRow_nil _ _ _ _) (Bel.refl _) (by simp; omega)).mono ?_; rintro e w' ⟨v', rfl, hown, hbk⟩; refine (fun hS : Bel w1 w' => ?_) (bel_step (by with_reducible assumption) hbk); refine (fun ho : Own w1.heap.size w' v' ([] ++ kp s (m + 1) X Y (m + 1)) => ?_) (Own.base hown (Bel.out (w := w1) (by with_reducible assumption)).size); clear hown; rw [List.nil_append] at ho; have hl := HL.out; generalize hq : kp s (m + 1) X Y (m + 1) = qs at ho hl; have HQ : Hid (kp s (m + 1) X Y (m + 1) = qs) := hq; clear hq; obtain ⟨a3, c3, rfl⟩ := ho.shape; have HO : Hid (Own w1.heap.size w' (.slice a3 qs.length c3) qs) := ho; clear ho; first | (refine (fun hz : PtAt w' w1.heap.size (X m) (Y m) => ?_) (PtAt.bel (PtAt.new w1 (X m) (Y m) 29) (bel_step (Bel.drew (Bel.refl _)) hbk)); have HZ : Hid (PtAt w' w1.heap.size (X m) (Y m)) := hz; clear hz) | skip)
      | (refine step_append_lies _ (by rfl) _ _ _ (by rfl) w1.heap.size 29 i0 (.agg #[.int .i64 0, .int .i64 0]) 2 16 Try.underlying24 hi hz0 hz1 hz2 rfl (by decide) _ _ _ (by rfl) (World.ownsRow.alloc HO.out _) ⟨w'.heap.size, 0, none⟩ 1 1 [.int .i64 (X m), .int .i64 (Y m)] (by rfl) rfl (PtAt.news (PtAt.new w' (X m) (Y m) _)) (cellsP_one [(X m, Y m)]) (by decide) (by unfold maxLen; omega) (by omega) (bel_alloc hS _).out.size _ rfl ?_; intro g cap w2 hown2 hgrow hat hlt; have hS2 : Bel w1 w2 := bel_grown (bel_alloc hS _) hgrow HO.out.row; have HO2 : Hid (w2.ownsRow w1.heap.size 29 2 (.slice (some ⟨g, 0, none⟩) (qs.length + 1) cap) (qs.length + 1) (cellsP qs ++ [.int .i64 (X m), .int .i64 (Y m)])) := hown2; clear hown2 hgrow hat hlt)
      | (refine step_append_lies _ (by rfl) _ _ _ (by rfl) w1.heap.size 29 i0 (.agg #[.int .i64 0, .int .i64 0]) 2 16 Try.underlying24 hi hz0 hz1 hz2 rfl (by decide) _ _ _ (by rfl) HO.out ⟨w1.heap.size, 0, none⟩ 1 1 [.int .i64 (X m), .int .i64 (Y m)] (by rfl) rfl (PtAt.news HZ.out) (cellsP_one [(X m, Y m)]) (by decide) (by unfold maxLen; omega) (by omega) (hS).out.size _ rfl ?_; intro g cap w2 hown2 hgrow hat hlt; have hS2 : Bel w1 w2 := bel_grown (hS) hgrow HO.out.row; have HO2 : Hid (w2.ownsRow w1.heap.size 29 2 (.slice (some ⟨g, 0, none⟩) (qs.length + 1) cap) (qs.length + 1) (cellsP qs ++ [.int .i64 (X m), .int .i64 (Y m)])) := hown2; clear hown2 hgrow hat hlt))
  all_goals
    go_wp2
    go_ret
    exact ⟨_, rfl, by rw [sl_some (by omega), HQ.out]; exact (Own.more HO2.out).base hb1.out.size, bel_step hb1 hS2⟩

set_option maxHeartbeats 1000000 in
theorem simplify_any (a : Option Addr) (n c : Nat) (X Y : Nat → Int) (s : Int) (w : World) (hP : Pts w a n X Y) (hc : n ≤ c) (hn : n ≤ 1048576) :
    Calls Try.prog 10 #[.slice a n c, .int .i64 s] w fun e w' => ∃ v', e = .returned v' ∧ Own w.heap.size w' v' (sq s n X Y) ∧ Bel w w' := by
  by_cases hr : rowB n X Y = true
  · by_cases hn0 : 0 < n
    · have hne : ((n : Int) == 0) = false := by simp; omega
      have hne' : ¬ (n : Int) = 0 := by omega
      by_cases s0 : 0 ≤ s
      · rw [sq_yes hr s0]
        exact simplify_ok _ _ _ X Y s _ hP hc hn hr hn0 s0
      · have s0' : s < 0 := by omega
        rw [sq_no (.inr s0')]
        go_enter Try.func10, Try.ntmps10
        go_wp2_with fail
        refine (rowOk_any _ _ _ X Y _ hP hn).mono ?_
        rintro e w1 ⟨rfl, hb1⟩
        go_wp2
        go_ret
        exact ⟨_, rfl, World.ownsRow_nil _ _ _ _, hb1⟩
    · have e0 : n = 0 := by omega
      subst e0
      rw [sq_none]
      go_enter Try.func10, Try.ntmps10
      go_wp2_with fail
      refine (rowOk_any _ _ _ X Y _ hP hn).mono ?_
      rintro e w1 ⟨rfl, hb1⟩
      go_wp2
      go_ret
      exact ⟨_, rfl, World.ownsRow_nil _ _ _ _, hb1⟩
  · have hr : rowB n X Y = false := by simpa using hr
    rw [sq_no (.inl hr)]
    go_enter Try.func10, Try.ntmps10
    go_wp2_with fail
    refine (rowOk_any _ _ _ X Y _ hP hn).mono ?_
    rintro e w1 ⟨rfl, hb1⟩
    go_wp2
    go_ret
    exact ⟨_, rfl, World.ownsRow_nil _ _ _ _, hb1⟩
end Go.Proofs.Ytkknbapcbcialaa
