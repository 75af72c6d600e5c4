/-
  slices.Repeat of one offer: contract.
-/
import Derived.Test.YtndijdnoikfnjaaDoorGA
import Derived.Test.YtndijdnoikfnjaaDoorGO
import Derived.Test.YtndijdnoikfnjaaDoorGK
import Derived.Laws.CopyOwn
namespace Go.Proofs.YtndijdnoikfnjaaDoor
open Go.RowKit Go.Maps

/-- A leg: what it costs, and its Road (-1: none). -/
abbrev LegD := Cst × Int
def legCs (a : LegD) : List Value := [.int .i64 a.1.t, .int .i64 a.1.c, .int .i64 a.2]
/-- The same cost many times. -/
def repO (z : LegD) (n : Nat) : List Value := (List.replicate n z).flatMap legCs
theorem repO_len (z : LegD) : ∀ n, (repO z n).length = n * 3
  | 0 => rfl
  | n + 1 => by
    have := repO_len z n
    unfold repO at this ⊢
    rw [List.replicate_succ, List.flatMap_cons, List.length_append, this]
    simp [legCs]
    omega
theorem repO_add (z : LegD) (a b : Nat) : repO z (a + b) = repO z a ++ repO z b := by
  unfold repO
  rw [← List.flatMap_append, List.replicate_append_replicate]
theorem repO_ones (z : LegD) (n : Nat) : ∀ u ∈ repO z n, u.oneCell' = true := fun u hu => by
  unfold repO at hu
  obtain ⟨c, _, hc⟩ := List.mem_flatMap.1 hu
  simp only [legCs, List.mem_cons, List.not_mem_nil, or_false] at hc
  rcases hc with rfl | rfl | rfl <;> rfl
/-- The first k of n offers are laid. -/
structure RpO (w : World) (g n : Nat) (z : LegD) (k : Nat) (wr : World) (cur : Array Value) : Prop where
  row : wr.heap[g]? = some (.cells cur 79 (0, 0))
  size : cur.size = n * 3
  low : cur.toList.take (k * 3) = repO z k
  bel : Bel w wr
theorem RpO.copy {w : World} {g n : Nat} {z : LegD} {k : Nat} {wr : World} {cur : Array Value} (h : RpO w g n z k wr cur) (hg : w.heap.size ≤ g) {m : Nat} (hm : k + m ≤ n) : RpO w g n z (k + m) (wr.setRow g (cur.toList.take (k * 3) ++ repO z m ++ cur.toList.drop (k * 3 + (repO z m).length)).toArray) (cur.toList.take (k * 3) ++ repO z m ++ cur.toList.drop (k * 3 + (repO z m).length)).toArray := by
  have hl := repO_len z m
  have hs := h.size
  refine ⟨setRow_heap wr g cur _ _ _ h.row, ?_, ?_, bel_setRow h.bel hg _⟩
  · simp [hl]
    omega
  · rw [h.low, repO_add]
    have e : (repO z k ++ repO z m).length = (k + m) * 3 := by rw [List.length_append, repO_len, repO_len]; omega
    rw [List.toList_toArray, ← e, List.take_left']
    rfl
set_option maxRecDepth 100000 in
set_option maxHeartbeats 4000000 in
theorem repeatO_any (z : LegD) (B c n : Nat) (w : World) (hX : Blk w B [.int .i64 z.1.t, .int .i64 z.1.c, .int .i64 z.2]) (hn : n ≤ 1000000) (_hc1 : 1 ≤ c) :
    Calls Tryd.prog 61 #[.slice (some ⟨B, 0, none⟩) 1 c, .int .i64 (n : Int)] w fun e w' => e = .returned (.slice (some ⟨w.heap.size, 0, none⟩) n n) ∧ w'.ownsRow w.heap.size 79 3 (.slice (some ⟨w.heap.size, 0, none⟩) n n) n (repO z n) ∧ Bel w w' := by
  obtain ⟨i0, hi0, hz0, hz1, hz2⟩ := info_parts infoOf
  have hsz : (Tryd.prog.info? 79).map (·.size) = some 3 := by rw [hi0]; simp [hz1]
  have hmk : ∀ w : World, (Instr.makeSlice 80 (.int .i64 n) (.int .i64 n)).run Tryd.prog w = .ok (.slice (some ⟨w.heap.size, 0, none⟩) n n) (w.alloc (.cells (madeCells #[.int .i64 0, .int .i64 0, .int .i64 0] (n * 3)) 79)) := fun w => by
    have := run_make (P := Tryd.prog) w 80 79 i0 (.agg #[.int .i64 0, .int .i64 0, .int .i64 0]) Tryd.underlying80 hi0 hz0 .i64 .i64 n n (by omega) (by omega) (by rw [hz2]; omega) (by omega)
    rw [hz1] at this
    exact this
  obtain ⟨W, HW⟩ : ∃ W, Hid (W = w.alloc (.cells (madeCells #[.int .i64 0, .int .i64 0, .int .i64 0] (n * 3)) 79)) := ⟨_, (rfl : w.alloc (.cells (madeCells #[.int .i64 0, .int .i64 0, .int .i64 0] (n * 3)) 79) = _)⟩
  have hRow : W.heap[w.heap.size]? = some (.cells (madeCells #[.int .i64 0, .int .i64 0, .int .i64 0] (n * 3)) 79 (0, 0)) := by rw [HW.out]; exact heap_alloc_new w _
  have hB : Bel w W := by rw [HW.out]; exact bel_alloc (Bel.refl _) _
  obtain ⟨g, Hg⟩ : ∃ g, w.heap.size = g := ⟨_, rfl⟩
  have HI0 : Hid (RpO w g n z 0 W (madeCells #[.int .i64 0, .int .i64 0, .int .i64 0] (n * 3))) := ⟨by rw [← Hg]; exact hRow, by simp [madeCells], by simp [repO], hB⟩
  obtain ⟨m, Hm⟩ : ∃ m, Hid (Nat.min 1 n = m) := ⟨_, (rfl : Nat.min 1 n = _)⟩
  have hm1 : m ≤ n ∧ m ≤ 1 ∧ (m = 0 → n = 0) := by have := Hm.out; show m ≤ n ∧ m ≤ 1 ∧ (m = 0 → n = 0); simp only [Nat.min_def] at this; split at this <;> omega
  have HXW : Hid (Blk W B [.int .i64 z.1.t, .int .i64 z.1.c, .int .i64 z.2]) := hX.bel hB
  obtain ⟨U, HU⟩ : ∃ U, Hid (U = (((madeCells #[.int .i64 0, .int .i64 0, .int .i64 0] (n * 3)).toList.take (0 * 3) ++ repO z m ++ (madeCells #[.int .i64 0, .int .i64 0, .int .i64 0] (n * 3)).toList.drop (0 * 3 + (repO z m).length)).toArray : Array Value)) := ⟨_, (rfl : (_ : Array Value) = _)⟩
  have HI1 : Hid (RpO w g n z m (W.setRow g U) U) := (by
    have h := HI0.out.copy (by omega) (m := m) (by omega)
    rw [Nat.zero_add, ← HU.out] at h
    exact h : RpO w g n z m (W.setRow g U) U)
  have hcp : ∀ ty, (Builtin.copy_ #[80, 80] ty #[.slice (some ⟨g, 0, none⟩) n n, .slice (some ⟨B, 0, none⟩) 1 c]).run Tryd.prog W = .ok (goInt m) (W.setRow g U) := fun ty => by
    rw [HU.out]
    have h := run_copy_rowq (P := Tryd.prog) W 80 80 ty 79 g 0 n n ⟨B, 0, none⟩ 1 c _ _ (repO z m) 3 m Tryd.underlying80 hsz HI0.out.row Hm.out (repO_len z m) (fun j v hv => ?_) (by rw [repO_len, HI0.out.size]; omega) (repO_ones z m)
    · simpa using h
    · rw [addr_at]
      obtain rfl | rfl : m = 0 ∨ m = 1 := by omega
      · simp [repO] at hv
      · have e : repO z 1 = [.int .i64 z.1.t, .int .i64 z.1.c, .int .i64 z.2] := rfl
        rw [e] at hv
        match j, hv with
        | 0, hv => simp at hv; rw [← hv]; exact HXW.out.cell 0 (by simp)
        | 1, hv => simp at hv; rw [← hv]; exact HXW.out.cell 1 (by simp)
        | 2, hv => simp at hv; rw [← hv]; exact HXW.out.cell 2 (by simp)
        | j + 3, hv => simp at hv
  have hn0 : ¬ (n : Int) < 0 := by omega
  have hcv : IntKind.u64.wrap (n : Int) = (n : Int) := by rw [IntKind.wrap_u64]; omega
  have hcv1 : IntKind.u64.wrap (1 : Int) = 1 := by rw [IntKind.wrap_u64]; omega
  have hcvi : IntKind.i64.wrap (n : Int) = (n : Int) := by rw [IntKind.wrap_i64]; omega
  have hgt : ¬ (9223372036854775807 : Int) < (n : Int) := by omega
  rw [Hg]
  clear hX hRow HI0
  go_enter Tryd.func61, Tryd.ntmps61
  go_wp2_with fail
  refine (mul_one n hn w).mono ?_
  rintro e w1 ⟨rfl, hw1⟩
  obtain rfl := hw1.symm
  go_upto_region 7 with fail
  rw [← HW.out]
  go_wp2
  go_loopw [8] (fun i wr => ∃ (k : Nat) (cur : Array Value), i = .int .i64 k ∧ k ≤ n ∧ (k = 0 → n = 0) ∧ Hid (RpO w g n z k wr cur)) (fun i _ => n - (intOf i).toNat)
  case atStart => exact ⟨m, U, by first | rfl | simp [goInt], hm1.1, hm1.2.2, HI1⟩
  case round =>
    clear HI1 hcp HU HXW
    obtain ⟨k, cur, rfl, hk, hk0, HI⟩ := hrel
    by_cases hlt : k < n
    · obtain ⟨m2, Hm2⟩ : ∃ m2, Hid (Nat.min k (n - k) = m2) := ⟨_, (rfl : Nat.min k (n - k) = _)⟩
      have hm2 : k + m2 ≤ n ∧ m2 ≤ k ∧ 0 < m2 := by have := Hm2.out; simp only [Nat.min_def] at this; split at this <;> omega
      obtain ⟨V, HV⟩ : ∃ U, Hid (U = ((cur.toList.take (k * 3) ++ repO z m2 ++ cur.toList.drop (k * 3 + (repO z m2).length)).toArray : Array Value)) := ⟨_, (rfl : (_ : Array Value) = _)⟩
      have HI2 : Hid (RpO w g n z (k + m2) (wr.drew.setRow g V) V) := (by
        have h0 : RpO w g n z k wr.drew cur := ⟨HI.out.row, HI.out.size, HI.out.low, HI.out.bel.drew⟩
        have h := h0.copy (by omega) (m := m2) (by omega)
        rw [← HV.out] at h
        exact h : RpO w g n z (k + m2) (wr.drew.setRow g V) V)
      have HCP : Hid (∀ ty, (Builtin.copy_ #[80, 80] ty #[.slice (some ⟨g, k * 3, none⟩) (n - k) (n - k), .slice (some ⟨g, 0, none⟩) k n]).run Tryd.prog wr.drew = .ok (goInt m2) (wr.drew.setRow g V)) := fun ty => by
        rw [HV.out]
        refine run_copy_rowq (P := Tryd.prog) wr.drew 80 80 ty 79 g (k * 3) (n - k) (n - k) ⟨g, 0, none⟩ k n cur _ (repO z m2) 3 m2 Tryd.underlying80 hsz HI.out.row Hm2.out (repO_len z m2) (fun j v hv => ?_) (by rw [repO_len, HI.out.size]; omega) (repO_ones z m2)
        rw [addr_at, Nat.zero_add]
        have hj : j < m2 * 3 := by
          rcases Nat.lt_or_ge j (m2 * 3) with h | h
          · exact h
          · rw [List.getElem?_eq_none (by rw [repO_len]; omega)] at hv
            exact nomatch hv
        have e : (repO z k)[j]? = some v := by
          obtain ⟨d, rfl⟩ : ∃ d, k = m2 + d := ⟨k - m2, by omega⟩
          rw [repO_add, List.getElem?_append_left (by rw [repO_len]; omega)]
          exact hv
        rw [← HI.out.low, List.getElem?_take_of_lt (by omega)] at e
        have e2 : cur[j]? = some v := by rw [← Array.getElem?_toList]; exact e
        show wr.cell? ⟨g, j, none⟩ = some v
        simp [World.cell?, HI.out.row, e2]
      have hkI : (k : Int) < (n : Int) := by omega
      have hkI2 : (k : Int) ≤ (n : Int) := by omega
      have hkn2 : k ≤ n := by omega
      have hw2 : IntKind.i64.wrap ((k : Int) + (m2 : Int)) = ((k + m2 : Nat) : Int) := by rw [IntKind.wrap_i64]; omega
      go_upto_region 9 with fail
      refine wp_region_noPanic ?_
      refine wp_region_held_drew (S := (fun _ => True)) (by kernel_rfl) (trivial) (fun hHeld => ?_)
      refine tk 0 hHeld ?_; refine tk 1 hHeld ?_; refine tk 2 hHeld ?_; refine tk 3 hHeld ?_; refine tk 4 hHeld ?_; refine tk 5 hHeld ?_
      refine tk 6 hHeld ?_
      refine rd1 7 (fun K hK => ?_)
      refine step_copyq _ rfl _ _ _ _ rfl (.slice (some ⟨g, k * 3, none⟩) (n - k) (n - k)) (.slice (some ⟨g, 0, none⟩) k n) (goInt m2) (by first | rfl | (simp [Act.eval]; omega)) (by first | rfl | simp [Act.eval]) (wr.drew.setRow g V) HCP.out ?_
      refine hK.out _ _ (trivial) (fun hHeld' => ?_)
      clear hK K hHeld
      have hHeld := hHeld'
      clear hHeld'
      try simp only [Act.put, List.setIfInBounds_toArray, List.set_cons_zero, List.set_cons_succ]
      refine tk 8 hHeld ?_; refine tk 9 hHeld ?_
      refine wpAnyH_done (by kernel_rfl) ?_ _
      refine NoPanic.normal ?_
      go_wp2
      go_roundw
      case rel => exact ⟨k + m2, V, by first | rfl | go_num | (rw [← hw2]; rfl), by omega, by omega, HI2⟩
      case measure => simp [intOf]; omega
    · obtain rfl : k = n := by omega
      have HO : Hid (wr.ownsRow g 79 3 (.slice (some ⟨g, 0, none⟩) k k) k (repO z k)) := ⟨repO_len z k, .inr ⟨g, k, cur, rfl, Nat.le_refl _, HI.out.row, Nat.le_refl _, by unfold maxLen; omega, HI.out.size, HI.out.low⟩⟩
      go_wp2
      go_ret
      exact ⟨rfl, HO.out, HI.out.bel⟩
end Go.Proofs.YtndijdnoikfnjaaDoor
