/-
  slices.Repeat of one offer: contract.
  The numbers of all Roads; the legs of a search: contracts.
-/
import Derived.Test.YtdlgehnoiaoneaaGreatDoorGA
import Derived.Test.YtdlgehnoiaoneaaGreatDoorGO
import Derived.Test.YtdlgehnoiaoneaaGreatDoorGK
import Derived.Laws.CopyOwn
import Derived.Test.YtdlgehnoiaoneaaGreatDoorGP
import Derived.Test.YtdlgehnoiaoneaaGreatDoorBpM
namespace Go.Proofs.YtdlgehnoiaoneaaGreatDoor
open Go.RowKit Go.Maps

/-- A leg: what it costs, and its Road (-1: none). -/
abbrev LegD := Cst × Int
def legCs (a : LegD) : List Value := [.int .i64 a.1.t, .int .i64 a.1.c, .int .i64 a.2]
/-- The same cost many times. -/
def repO (z : LegD) (n : Nat) : List Value := (List.replicate n z).flatMap legCs
theorem repO_len (z : LegD) : ∀ n, (repO z n).length = n * 3
  | 0 => rfl
  | n + 1 => by
    have := repO_len z n
    unfold repO at this ⊢
    rw [List.replicate_succ, List.flatMap_cons, List.length_append, this]
    simp [legCs]
    omega
theorem repO_add (z : LegD) (a b : Nat) : repO z (a + b) = repO z a ++ repO z b := by
  unfold repO
  rw [← List.flatMap_append, List.replicate_append_replicate]
theorem repO_ones (z : LegD) (n : Nat) : ∀ u ∈ repO z n, u.oneCell' = true := fun u hu => by
  unfold repO at hu
  obtain ⟨c, _, hc⟩ := List.mem_flatMap.1 hu
  simp only [legCs, List.mem_cons, List.not_mem_nil, or_false] at hc
  rcases hc with rfl | rfl | rfl <;> rfl
/-- The first k of n offers are laid. -/
structure RpO (w : World) (g n : Nat) (z : LegD) (k : Nat) (wr : World) (cur : Array Value) : Prop where
  row : wr.heap[g]? = some (.cells cur 114 (0, 0))
  size : cur.size = n * 3
  low : cur.toList.take (k * 3) = repO z k
  bel : Bel w wr
theorem RpO.copy {w : World} {g n : Nat} {z : LegD} {k : Nat} {wr : World} {cur : Array Value} (h : RpO w g n z k wr cur) (hg : w.heap.size ≤ g) {m : Nat} (hm : k + m ≤ n) : RpO w g n z (k + m) (wr.setRow g (cur.toList.take (k * 3) ++ repO z m ++ cur.toList.drop (k * 3 + (repO z m).length)).toArray) (cur.toList.take (k * 3) ++ repO z m ++ cur.toList.drop (k * 3 + (repO z m).length)).toArray := by
  have hl := repO_len z m
  have hs := h.size
  refine ⟨setRow_heap wr g cur _ _ _ h.row, ?_, ?_, bel_setRow h.bel hg _⟩
  · simp [hl]
    omega
  · rw [h.low, repO_add]
    have e : (repO z k ++ repO z m).length = (k + m) * 3 := by rw [List.length_append, repO_len, repO_len]; omega
    rw [List.toList_toArray, ← e, List.take_left']
    rfl
set_option maxRecDepth 100000 in
set_option maxHeartbeats 4000000 in
theorem repeatO_any (z : LegD) (B c n : Nat) (w : World) (hX : Blk w B [.int .i64 z.1.t, .int .i64 z.1.c, .int .i64 z.2]) (hn : n ≤ 1000000) (_hc1 : 1 ≤ c) :
    Calls Tryz.prog 71 #[.slice (some ⟨B, 0, none⟩) 1 c, .int .i64 (n : Int)] w fun e w' => e = .returned (.slice (some ⟨w.heap.size, 0, none⟩) n n) ∧ w'.ownsRow w.heap.size 114 3 (.slice (some ⟨w.heap.size, 0, none⟩) n n) n (repO z n) ∧ Bel w w' := by
  obtain ⟨i0, hi0, hz0, hz1, hz2⟩ := info_parts infoOf
  have hsz : (Tryz.prog.info? 114).map (·.size) = some 3 := by rw [hi0]; simp [hz1]
  have hmk : ∀ w : World, (Instr.makeSlice 106 (.int .i64 n) (.int .i64 n)).run Tryz.prog w = .ok (.slice (some ⟨w.heap.size, 0, none⟩) n n) (w.alloc (.cells (madeCells #[.int .i64 0, .int .i64 0, .int .i64 0] (n * 3)) 114)) := fun w => by
    have := run_make (P := Tryz.prog) w 106 114 i0 (.agg #[.int .i64 0, .int .i64 0, .int .i64 0]) Tryz.underlying106 hi0 hz0 .i64 .i64 n n (by omega) (by omega) (by rw [hz2]; omega) (by omega)
    rw [hz1] at this
    exact this
  obtain ⟨W, HW⟩ : ∃ W, Hid (W = w.alloc (.cells (madeCells #[.int .i64 0, .int .i64 0, .int .i64 0] (n * 3)) 114)) := ⟨_, (rfl : w.alloc (.cells (madeCells #[.int .i64 0, .int .i64 0, .int .i64 0] (n * 3)) 114) = _)⟩
  have hRow : W.heap[w.heap.size]? = some (.cells (madeCells #[.int .i64 0, .int .i64 0, .int .i64 0] (n * 3)) 114 (0, 0)) := by rw [HW.out]; exact heap_alloc_new w _
  have hB : Bel w W := by rw [HW.out]; exact bel_alloc (Bel.refl _) _
  obtain ⟨g, Hg⟩ : ∃ g, w.heap.size = g := ⟨_, rfl⟩
  have HI0 : Hid (RpO w g n z 0 W (madeCells #[.int .i64 0, .int .i64 0, .int .i64 0] (n * 3))) := ⟨by rw [← Hg]; exact hRow, by simp [madeCells], by simp [repO], hB⟩
  obtain ⟨m, Hm⟩ : ∃ m, Hid (Nat.min 1 n = m) := ⟨_, (rfl : Nat.min 1 n = _)⟩
  have hm1 : m ≤ n ∧ m ≤ 1 ∧ (m = 0 → n = 0) := by have := Hm.out; show m ≤ n ∧ m ≤ 1 ∧ (m = 0 → n = 0); simp only [Nat.min_def] at this; split at this <;> omega
  have HXW : Hid (Blk W B [.int .i64 z.1.t, .int .i64 z.1.c, .int .i64 z.2]) := hX.bel hB
  obtain ⟨U, HU⟩ : ∃ U, Hid (U = (((madeCells #[.int .i64 0, .int .i64 0, .int .i64 0] (n * 3)).toList.take (0 * 3) ++ repO z m ++ (madeCells #[.int .i64 0, .int .i64 0, .int .i64 0] (n * 3)).toList.drop (0 * 3 + (repO z m).length)).toArray : Array Value)) := ⟨_, (rfl : (_ : Array Value) = _)⟩
  have HI1 : Hid (RpO w g n z m (W.setRow g U) U) := (by
    have h := HI0.out.copy (by omega) (m := m) (by omega)
    rw [Nat.zero_add, ← HU.out] at h
    exact h : RpO w g n z m (W.setRow g U) U)
  have hcp : ∀ ty, (Builtin.copy_ #[106, 106] ty #[.slice (some ⟨g, 0, none⟩) n n, .slice (some ⟨B, 0, none⟩) 1 c]).run Tryz.prog W = .ok (goInt m) (W.setRow g U) := fun ty => by
    rw [HU.out]
    have h := run_copy_rowq (P := Tryz.prog) W 106 106 ty 114 g 0 n n ⟨B, 0, none⟩ 1 c _ _ (repO z m) 3 m Tryz.underlying106 hsz HI0.out.row Hm.out (repO_len z m) (fun j v hv => ?_) (by rw [repO_len, HI0.out.size]; omega) (repO_ones z m)
    · simpa using h
    · rw [addr_at]
      obtain rfl | rfl : m = 0 ∨ m = 1 := by omega
      · simp [repO] at hv
      · have e : repO z 1 = [.int .i64 z.1.t, .int .i64 z.1.c, .int .i64 z.2] := rfl
        rw [e] at hv
        match j, hv with
        | 0, hv => simp at hv; rw [← hv]; exact HXW.out.cell 0 (by simp)
        | 1, hv => simp at hv; rw [← hv]; exact HXW.out.cell 1 (by simp)
        | 2, hv => simp at hv; rw [← hv]; exact HXW.out.cell 2 (by simp)
        | j + 3, hv => simp at hv
  have hn0 : ¬ (n : Int) < 0 := by omega
  have hcv : IntKind.u64.wrap (n : Int) = (n : Int) := by rw [IntKind.wrap_u64]; omega
  have hcv1 : IntKind.u64.wrap (1 : Int) = 1 := by rw [IntKind.wrap_u64]; omega
  have hcvi : IntKind.i64.wrap (n : Int) = (n : Int) := by rw [IntKind.wrap_i64]; omega
  have hgt : ¬ (9223372036854775807 : Int) < (n : Int) := by omega
  rw [Hg]
  clear hX hRow HI0
  go_enter Tryz.func71, Tryz.ntmps71
  go_wp2_with fail
  refine (mul_one n hn w).mono ?_
  rintro e w1 ⟨rfl, hw1⟩
  obtain rfl := hw1.symm
  go_upto_region 7 with fail
  rw [← HW.out]
  go_wp2
  go_loopw [8] (fun i wr => ∃ (k : Nat) (cur : Array Value), i = .int .i64 k ∧ k ≤ n ∧ (k = 0 → n = 0) ∧ Hid (RpO w g n z k wr cur)) (fun i _ => n - (intOf i).toNat)
  case atStart => exact ⟨m, U, by first | rfl | simp [goInt], hm1.1, hm1.2.2, HI1⟩
  case round =>
    clear HI1 hcp HU HXW
    obtain ⟨k, cur, rfl, hk, hk0, HI⟩ := hrel
    by_cases hlt : k < n
    · obtain ⟨m2, Hm2⟩ : ∃ m2, Hid (Nat.min k (n - k) = m2) := ⟨_, (rfl : Nat.min k (n - k) = _)⟩
      have hm2 : k + m2 ≤ n ∧ m2 ≤ k ∧ 0 < m2 := by have := Hm2.out; simp only [Nat.min_def] at this; split at this <;> omega
      obtain ⟨V, HV⟩ : ∃ U, Hid (U = ((cur.toList.take (k * 3) ++ repO z m2 ++ cur.toList.drop (k * 3 + (repO z m2).length)).toArray : Array Value)) := ⟨_, (rfl : (_ : Array Value) = _)⟩
      have HI2 : Hid (RpO w g n z (k + m2) (wr.drew.setRow g V) V) := (by
        have h0 : RpO w g n z k wr.drew cur := ⟨HI.out.row, HI.out.size, HI.out.low, HI.out.bel.drew⟩
        have h := h0.copy (by omega) (m := m2) (by omega)
        rw [← HV.out] at h
        exact h : RpO w g n z (k + m2) (wr.drew.setRow g V) V)
      have HCP : Hid (∀ ty, (Builtin.copy_ #[106, 106] ty #[.slice (some ⟨g, k * 3, none⟩) (n - k) (n - k), .slice (some ⟨g, 0, none⟩) k n]).run Tryz.prog wr.drew = .ok (goInt m2) (wr.drew.setRow g V)) := fun ty => by
        rw [HV.out]
        refine run_copy_rowq (P := Tryz.prog) wr.drew 106 106 ty 114 g (k * 3) (n - k) (n - k) ⟨g, 0, none⟩ k n cur _ (repO z m2) 3 m2 Tryz.underlying106 hsz HI.out.row Hm2.out (repO_len z m2) (fun j v hv => ?_) (by rw [repO_len, HI.out.size]; omega) (repO_ones z m2)
        rw [addr_at, Nat.zero_add]
        have hj : j < m2 * 3 := by
          rcases Nat.lt_or_ge j (m2 * 3) with h | h
          · exact h
          · rw [List.getElem?_eq_none (by rw [repO_len]; omega)] at hv
            exact nomatch hv
        have e : (repO z k)[j]? = some v := by
          obtain ⟨d, rfl⟩ : ∃ d, k = m2 + d := ⟨k - m2, by omega⟩
          rw [repO_add, List.getElem?_append_left (by rw [repO_len]; omega)]
          exact hv
        rw [← HI.out.low, List.getElem?_take_of_lt (by omega)] at e
        have e2 : cur[j]? = some v := by rw [← Array.getElem?_toList]; exact e
        show wr.cell? ⟨g, j, none⟩ = some v
        simp [World.cell?, HI.out.row, e2]
      have hkI : (k : Int) < (n : Int) := by omega
      have hkI2 : (k : Int) ≤ (n : Int) := by omega
      have hkn2 : k ≤ n := by omega
      have hw2 : IntKind.i64.wrap ((k : Int) + (m2 : Int)) = ((k + m2 : Nat) : Int) := by rw [IntKind.wrap_i64]; omega
      go_upto_region 9 with fail
      refine wp_region_noPanic ?_
      refine wp_region_held_drew (S := (fun _ => True)) (by kernel_rfl) (trivial) (fun hHeld => ?_)
      refine tk 0 hHeld ?_; refine tk 1 hHeld ?_; refine tk 2 hHeld ?_; refine tk 3 hHeld ?_; refine tk 4 hHeld ?_; refine tk 5 hHeld ?_
      refine tk 6 hHeld ?_
      refine rd1 7 (fun K hK => ?_)
      refine step_copyq _ rfl _ _ _ _ rfl (.slice (some ⟨g, k * 3, none⟩) (n - k) (n - k)) (.slice (some ⟨g, 0, none⟩) k n) (goInt m2) (by first | rfl | (simp [Act.eval]; omega)) (by first | rfl | simp [Act.eval]) (wr.drew.setRow g V) HCP.out ?_
      refine hK.out _ _ (trivial) (fun hHeld' => ?_)
      clear hK K hHeld
      have hHeld := hHeld'
      clear hHeld'
      try simp only [Act.put, List.setIfInBounds_toArray, List.set_cons_zero, List.set_cons_succ]
      refine tk 8 hHeld ?_; refine tk 9 hHeld ?_
      refine wpAnyH_done (by kernel_rfl) ?_ _
      refine NoPanic.normal ?_
      go_wp2
      go_roundw
      case rel => exact ⟨k + m2, V, by first | rfl | go_num | (rw [← hw2]; rfl), by omega, by omega, HI2⟩
      case measure => simp [intOf]; omega
    · obtain rfl : k = n := by omega
      have HO : Hid (wr.ownsRow g 114 3 (.slice (some ⟨g, 0, none⟩) k k) k (repO z k)) := ⟨repO_len z k, .inr ⟨g, k, cur, rfl, Nat.le_refl _, HI.out.row, Nat.le_refl _, by unfold maxLen; omega, HI.out.size, HI.out.low⟩⟩
      go_wp2
      go_ret
      exact ⟨rfl, HO.out, HI.out.bel⟩
end Go.Proofs.YtdlgehnoiaoneaaGreatDoor

namespace Go.Proofs.YtdlgehnoiaoneaaGreatDoor
open Go.RowKit Go.Maps

theorem tkV_range (n : Nat) : tkV ((List.range n).map Int.ofNat) n n = intsN (List.range n) := by
  rw [tkV_all (by simp)]
  simp [intsV, intsN]

set_option maxRecDepth 100000 in
set_option maxHeartbeats 4000000 in
theorem numbers_any (a0 : Option Addr) (n0 c0 : Nat) (a1 : Option Addr) (n1 c1 : Nat) (a2 : Option Addr) (n2 c2 Bb Be M Wd : Nat) (w : World) (m1 : n1 ≤ 8000) :
    Calls Tryz.prog 58 #[.agg #[.slice a0 n0 c0, .slice a1 n1 c1, .slice a2 n2 c2, .slice (some ⟨Bb, 0, none⟩) n0 n0, .slice (some ⟨Be, 0, none⟩) n0 n0, .map (some M), .slice (some ⟨Wd, 0, none⟩) n1 n1]] w fun e w' => ∃ G, e = .returned (.slice (some ⟨G, 0, none⟩) n1 n1) ∧ w'.ownsRow w.heap.size 2 1 (.slice (some ⟨G, 0, none⟩) n1 n1) n1 (intsN (List.range n1)) ∧ Bel w w' := by
  obtain ⟨W, HW⟩ : ∃ W, Hid (W = w.alloc (.cells #[.slice a0 n0 c0, .slice a1 n1 c1, .slice a2 n2 c2, .slice (some ⟨Bb, 0, none⟩) n0 n0, .slice (some ⟨Be, 0, none⟩) n0 n0, .map (some M), .slice (some ⟨Wd, 0, none⟩) n1 n1] 91)) := ⟨_, (rfl : w.alloc (.cells #[.slice a0 n0 c0, .slice a1 n1 c1, .slice a2 n2 c2, .slice (some ⟨Bb, 0, none⟩) n0 n0, .slice (some ⟨Be, 0, none⟩) n0 n0, .map (some M), .slice (some ⟨Wd, 0, none⟩) n1 n1] 91) = _)⟩
  have hBW : Bel w W := by rw [HW.out]; exact bel_alloc (Bel.refl _) _
  have XW : Blk W w.heap.size [.slice a0 n0 c0, .slice a1 n1 c1, .slice a2 n2 c2, .slice (some ⟨Bb, 0, none⟩) n0 n0, .slice (some ⟨Be, 0, none⟩) n0 n0, .map (some M), .slice (some ⟨Wd, 0, none⟩) n1 n1] := by rw [HW.out]; exact Blk.new w [.slice a0 n0 c0, .slice a1 n1 c1, .slice a2 n2 c2, .slice (some ⟨Bb, 0, none⟩) n0 n0, .slice (some ⟨Be, 0, none⟩) n0 n0, .map (some M), .slice (some ⟨Wd, 0, none⟩) n1 n1] _
  have u1 : W.cell? ⟨w.heap.size, 1, none⟩ = some (.slice a1 n1 c1) := XW.cell 1 (by simp)
  have ul := XW.lt
  have hmk : ∀ w : World, (Instr.makeSlice 46 (.int .i64 n1) (.int .i64 n1)).run Tryz.prog w = .ok (.slice (some ⟨w.heap.size, 0, none⟩) n1 n1) (w.alloc (.cells (madeCells #[.int .i64 0] n1) 2)) := fun w => by
    obtain ⟨i0, hi, hz0, hz1, hz2⟩ := info_parts infoW
    have := run_make (P := Tryz.prog) w 46 2 i0 (.int .i64 0) Tryz.underlying46 hi hz0 .i64 .i64 n1 n1 (by omega) (by omega) (by rw [hz2]; omega) (by omega)
    rw [hz1, Nat.mul_one] at this
    exact this
  obtain ⟨R, HR⟩ : ∃ R, Hid ((List.range n1).map Int.ofNat = R) := ⟨_, (rfl : (List.range n1).map Int.ofNat = _)⟩
  have HRl : Hid (R.length = n1) := (by rw [← HR.out]; simp : R.length = n1)
  obtain ⟨X, HX⟩ : ∃ X, Hid (X = W.alloc (.cells (madeCells #[.int .i64 0] n1) 2)) := ⟨_, (rfl : W.alloc (.cells (madeCells #[.int .i64 0] n1) 2) = _)⟩
  have hbX : Bel W X := by rw [HX.out]; exact bel_alloc (Bel.refl _) _
  have hOX : X.ownsRow W.heap.size 2 1 (.slice (some ⟨W.heap.size, 0, none⟩) n1 n1) n1 (tkV R 0 n1) := by
    rw [HX.out, tkV_zero, ← toList_madeCells_one]
    exact World.ownsRow_lit W _ n1 (Nat.le_refl _) (by unfold maxLen; omega) (by rw [← Array.length_toList, toList_madeCells_one]; simp)
  obtain ⟨BT, HBT⟩ : ∃ n, Hid (W.heap.size = n) := ⟨_, (rfl : W.heap.size = _)⟩
  rw [HBT.out] at hOX
  have HwB : Hid (w.heap.size ≤ BT) := (by rw [← HBT.out]; exact hBW.out.size : w.heap.size ≤ BT)
  have HOX : Hid (X.ownsRow BT 2 1 (.slice (some ⟨BT, 0, none⟩) n1 n1) n1 (tkV R 0 n1)) := hOX
  have HBX : Hid (Bel w X) := bel_step hBW hbX
  clear hOX hBW hbX XW
  go_enter Tryz.func58, Tryz.ntmps58
  go_upto_region 1 with fail
  rw [← HW.out]
  go_wp2
  rw [← HX.out, HBT.out]
  clear u1 ul hmk
  go_loopw [4, 13] (fun _ i wr => ∃ k : Nat, k ≤ n1 ∧ i = .int .i64 k ∧ Hid (wr.ownsRow BT 2 1 (.slice (some ⟨BT, 0, none⟩) n1 n1) n1 (tkV R k n1)) ∧ Hid (Bel w wr)) (fun _ i _ => n1 - (intOf i).toNat)
  case atStart => exact ⟨0, Nat.zero_le _, rfl, HOX, HBX⟩
  case round =>
    clear HOX HBX
    obtain ⟨k, hk, rfl, HO, HB⟩ := hrel
    by_cases hlt : k < n1
    · have HRk : Hid ((tkV R k n1).set k (.int .i64 (k : Int)) = tkV R (k + 1) n1) := (by
        rw [← tkV_set hlt HRl.out]
        congr 2
        simp only [← HR.out, List.getElem_map, List.getElem_range]
        rfl : (tkV R k n1).set k (.int .i64 (k : Int)) = tkV R (k + 1) n1)
      have hltI : (k : Int) < (n1 : Int) := by omega
      have o1 : wr.cell? ⟨BT, k, none⟩ = some ((tkV R k n1)[k]'(by rw [tkV_len]; exact hlt)) := by rw [HO.out.cellAt k (by omega), List.getElem?_eq_getElem]
      have o2 := World.ownsRow.frozenAt HO.out k
      have o3 := (World.ownsRow.lt HO.out BT rfl).2
      have HO8 : Hid ((wr.setCell ⟨BT, k, none⟩ (.int .i64 (k : Int))).ownsRow BT 2 1 (.slice (some ⟨BT, 0, none⟩) n1 n1) n1 (tkV R (k + 1) n1)) := (by rw [← HRk.out]; exact (World.ownsRow.stored HO.out k (.int .i64 (k : Int))).1 : (wr.setCell ⟨BT, k, none⟩ (.int .i64 (k : Int))).ownsRow BT 2 1 (.slice (some ⟨BT, 0, none⟩) n1 n1) n1 (tkV R (k + 1) n1))
      have HB8 : Hid (Bel w (wr.setCell ⟨BT, k, none⟩ (.int .i64 (k : Int)))) := bel_set HB.out HwB.out _
      obtain ⟨old, Hold⟩ : ∃ v, Hid ((tkV R k n1)[k]'(by rw [tkV_len]; exact hlt) = v) := ⟨_, (rfl : (tkV R k n1)[k]'(by rw [tkV_len]; exact hlt) = _)⟩
      rw [Hold.out] at o1
      go_wp2
      go_roundw
      case rel => exact ⟨k + 1, by omega, by go_num, HO8, HB8⟩
      case measure => simp [intOf]; omega
    · have e : n1 = k := by omega
      have HOE : Hid (wr.ownsRow w.heap.size 2 1 (.slice (some ⟨BT, 0, none⟩) n1 n1) n1 (intsN (List.range n1))) := (by
        have h := HO.out
        rw [← e, ← HR.out, tkV_range] at h
        exact own_lo h HwB.out : wr.ownsRow w.heap.size 2 1 (.slice (some ⟨BT, 0, none⟩) n1 n1) n1 (intsN (List.range n1)))
      clear HO
      subst e
      go_wp2
      go_ret
      exact ⟨BT, rfl, HOE.out, HB.out⟩

/-- All legs, the first k Roads looked at. -/
def lgL (bl : List Cst) (back : Bool) (g : GraphD) (st : Int) (n0 k : Nat) : List LegD := (List.range n0).map (lgF bl back g st k)
theorem lgL_len (bl : List Cst) (back : Bool) (g : GraphD) (st : Int) (n0 k : Nat) : (lgL bl back g st n0 k).length = n0 := by simp [lgL]
theorem lgL_at {bl : List Cst} {back : Bool} {g : GraphD} {st : Int} {n0 k p : Nat} (h : p < n0) : (lgL bl back g st n0 k)[p]'(by rw [lgL_len]; exact h) = lgF bl back g st k p := by simp [lgL]
theorem lgL_yes {bl : List Cst} {back : Bool} {g : GraphD} {st : Int} {n0 k q : Nat} (hq : q < n0) (hp : plcB back g k = (q : Int)) (hl : cLtB (cAt bl k) (lgF bl back g st k q).1 = true) : lgL bl back g st n0 (k + 1) = (lgL bl back g st n0 k).set q (cAt bl k, (k : Int)) := by
  apply List.ext_getElem
  · simp [lgL]
  · intro p h1 h2
    have hpn : p < n0 := by rw [lgL_len] at h1; exact h1
    rw [lgL_at hpn, lgF_succ]
    unfold lgS
    by_cases e : p = q
    · subst e
      rw [if_pos ⟨hp, hl⟩, List.getElem_set_self]
    · rw [if_neg (fun h => e (by have := h.1; rw [hp] at this; omega)), List.getElem_set_ne (fun h => e h.symm), lgL_at hpn]
theorem lgL_no {bl : List Cst} {back : Bool} {g : GraphD} {st : Int} {n0 k q : Nat} (hp : plcB back g k = (q : Int)) (hl : cLtB (cAt bl k) (lgF bl back g st k q).1 = false) : lgL bl back g st n0 (k + 1) = lgL bl back g st n0 k := by
  apply List.ext_getElem
  · simp [lgL]
  · intro p h1 h2
    have hpn : p < n0 := by rw [lgL_len] at h1; exact h1
    rw [lgL_at hpn, lgF_succ, lgL_at hpn]
    unfold lgS
    rw [if_neg]
    rintro ⟨h3, h4⟩
    obtain rfl : p = q := by rw [hp] at h3; omega
    rw [hl] at h4
    exact nomatch h4
theorem lgL_zero {bl : List Cst} {back : Bool} {g : GraphD} {n0 p : Nat} (hp : p < n0) : lgL bl back g (p : Int) n0 0 = (List.replicate n0 ((⟨noT, 0⟩, -1) : LegD)).set p (⟨0, 0⟩, -1) := by
  apply List.ext_getElem
  · simp [lgL]
  · intro q h1 h2
    have hqn : q < n0 := by rw [lgL_len] at h1; exact h1
    rw [lgL_at hqn]
    show lg0 (p : Int) q = _
    unfold lg0
    by_cases e : q = p
    · subst e
      rw [if_pos rfl, List.getElem_set_self]
    · rw [if_neg (by omega), List.getElem_set_ne (fun h => e h.symm)]
      simp
theorem flat_set3 : ∀ (l : List LegD) (r : Nat) (c : LegD), r < l.length → (((l.flatMap legCs).set (r * 3) (.int .i64 c.1.t)).set (r * 3 + 1) (.int .i64 c.1.c)).set (r * 3 + 2) (.int .i64 c.2) = (l.set r c).flatMap legCs
  | [], r, c, h => absurd h (by simp)
  | a :: l, 0, c, h => by simp [legCs]
  | a :: l, r + 1, c, h => by
    have h' : r < l.length := by simpa using h
    have ih := flat_set3 l r c h'
    have e1 : (r + 1) * 3 = 3 + r * 3 := by omega
    have e2 : (r + 1) * 3 + 1 = 3 + (r * 3 + 1) := by omega
    have e3 : (r + 1) * 3 + 2 = 3 + (r * 3 + 2) := by omega
    rw [List.set_cons_succ, List.flatMap_cons, List.flatMap_cons, ← ih, e2, e3, e1]
    have hl : (legCs a).length = 3 := rfl
    rw [List.set_append_right _ _ (by omega), List.set_append_right _ _ (by omega), List.set_append_right _ _ (by omega)]
    simp [hl]
theorem leg_at {base : Nat} {w : World} {g n cap : Nat} {l : List LegD} (h : w.ownsRow base 114 3 (.slice (some ⟨g, 0, none⟩) n cap) n (l.flatMap legCs)) (hn : l.length = n) {i : Nat} (hi : i < l.length) :
    w.cell? ⟨g, i * 3, none⟩ = some (.int .i64 l[i].1.t) ∧ w.cell? ⟨g, i * 3 + 1, none⟩ = some (.int .i64 l[i].1.c) ∧ w.cell? ⟨g, i * 3 + 2, none⟩ = some (.int .i64 l[i].2) := by
  subst hn
  have h0 := h.cellAt (i * 3) (by omega)
  have h1 := h.cellAt (i * 3 + 1) (by omega)
  have h2 := h.cellAt (i * 3 + 2) (by omega)
  have k0 := flat_at (cs := legCs) (q := 3) (fun _ => rfl) l i hi 0 (by omega)
  have k1 := flat_at (cs := legCs) (q := 3) (fun _ => rfl) l i hi 1 (by omega)
  have k2 := flat_at (cs := legCs) (q := 3) (fun _ => rfl) l i hi 2 (by omega)
  rw [Nat.add_zero] at k0
  exact ⟨h0.trans k0, h1.trans k1, h2.trans k2⟩
theorem leg_set {base : Nat} {w : World} {g n cap : Nat} {l : List LegD} (h : w.ownsRow base 114 3 (.slice (some ⟨g, 0, none⟩) n cap) n (l.flatMap legCs)) (hn : l.length = n) {i : Nat} (hi : i < n) (c : LegD) :
    (((w.setCell ⟨g, i * 3, none⟩ (.int .i64 c.1.t)).setCell ⟨g, i * 3 + 1, none⟩ (.int .i64 c.1.c)).setCell ⟨g, i * 3 + 2, none⟩ (.int .i64 c.2)).ownsRow base 114 3 (.slice (some ⟨g, 0, none⟩) n cap) n ((l.set i c).flatMap legCs) := by
  rw [← flat_set3 l i c (by omega)]
  exact (World.ownsRow.stored (World.ownsRow.stored (World.ownsRow.stored h (i * 3) _).1 (i * 3 + 1) _).1 (i * 3 + 2) _).1
theorem set_same {α : Type} {l : List α} {i : Nat} {a : α} (h : l[i]? = some a) : l.set i a = l := by
  apply List.ext_getElem?
  intro j
  by_cases e : i = j
  · subst e
    rw [List.getElem?_set_self (List.getElem?_eq_some_iff.1 h).1, h]
  · rw [List.getElem?_set_ne e]
theorem repO_flat (z : LegD) (n : Nat) : repO z n = (List.replicate n z).flatMap legCs := rfl
/-- Two cells of one leg are set. -/
theorem leg_set2 {base : Nat} {w : World} {g n cap : Nat} {l : List LegD} (h : w.ownsRow base 114 3 (.slice (some ⟨g, 0, none⟩) n cap) n (l.flatMap legCs)) (hn : l.length = n) {i : Nat} (hi : i < n) (c : Cst) :
    ((w.setCell ⟨g, i * 3, none⟩ (.int .i64 c.t)).setCell ⟨g, i * 3 + 1, none⟩ (.int .i64 c.c)).ownsRow base 114 3 (.slice (some ⟨g, 0, none⟩) n cap) n ((l.set i (c, (l[i]'(by omega)).2)).flatMap legCs) := by
  have e : ((l.flatMap legCs).set (i * 3) (.int .i64 c.t)).set (i * 3 + 1) (.int .i64 c.c) = (l.set i (c, (l[i]'(by omega)).2)).flatMap legCs := by
    rw [← flat_set3 l i (c, (l[i]'(by omega)).2) (by omega)]
    refine (set_same ?_).symm
    have k2 := flat_at (cs := legCs) (q := 3) (fun _ => rfl) l i (by omega) 2 (by omega)
    rw [List.getElem?_set_ne (by omega), List.getElem?_set_ne (by omega), k2]
    rfl
  rw [← e]
  exact (World.ownsRow.stored (World.ownsRow.stored h (i * 3) _).1 (i * 3 + 1) _).1

set_option maxRecDepth 100000 in
set_option maxHeartbeats 4000000 in
theorem legs_any (base P : Nat) (S : SrS) (vb vl vo vi : Value) (g : GraphD) (b1 : List Nat) (bl : List Cst) (G lo p : Nat) (w : World) (hP : SrP base S P w vb vl vo vi) (hB : SrB base w vb bl) (t1 : RoadL w S.a1 g.roads b1) (e1 : g.roads.length = S.n1) (eb : bl.length = S.n1) (hg : graphP g) (hn0 : g.places.length = S.n0) (hst : S.start = (p : Int)) (hp : p < S.n0)
    (hN : w.ownsRow lo 2 1 (.slice (some ⟨G, 0, none⟩) S.n1 S.n1) S.n1 (intsN (List.range S.n1))) :
    Calls Tryz.prog 57 #[.pointer (some ⟨P, 0, none⟩), .slice (some ⟨G, 0, none⟩) S.n1 S.n1] w fun e w' => ∃ L, e = .returned (.slice (some ⟨L, 0, none⟩) S.n0 S.n0) ∧ w'.ownsRow w.heap.size 114 3 (.slice (some ⟨L, 0, none⟩) S.n0 S.n0) S.n0 ((lgL bl S.back g S.start S.n0 S.n1).flatMap legCs) ∧ Bel w w' := by
  have m0 : S.n0 ≤ 5000 := by rw [← hn0]; exact hg.1.1
  have m1 : S.n1 ≤ 8000 := by rw [← e1]; exact hg.1.2.1
  obtain ⟨n0, H0⟩ : ∃ n, Hid (S.n0 = n) := ⟨_, (rfl : S.n0 = _)⟩
  obtain ⟨n1, H1⟩ : ∃ n, Hid (S.n1 = n) := ⟨_, (rfl : S.n1 = _)⟩
  have Hst : Hid (S.start = (p : Int)) := hst
  obtain ⟨W, HW⟩ : ∃ W, Hid (W = w.alloc (.cells #[.int .i64 9223372036854775807, .int .i64 0, .int .i64 (-1)] 114)) := ⟨_, (rfl : w.alloc (.cells #[.int .i64 9223372036854775807, .int .i64 0, .int .i64 (-1)] 114) = _)⟩
  have hBW : Bel w W := by rw [HW.out]; exact bel_alloc (Bel.refl _) _
  have XW : Blk W w.heap.size [.int .i64 noT, .int .i64 0, .int .i64 (-1)] := by rw [HW.out]; exact Blk.new w [.int .i64 noT, .int .i64 0, .int .i64 (-1)] _
  have p0 : w.cell? ⟨P, 0, none⟩ = some (.slice S.a0 n0 S.c0) := by rw [← H0.out]; exact SrP.at hP 0 (by omega)
  have pl := (SrP.lt hP).2
  have HC : Hid (∀ w', Bel w w' → w'.cell? ⟨P, 8, none⟩ = some (.int .i64 (p : Int)) ∧ P < w'.heap.size) := (fun w' h => ⟨by rw [← Hst.out]; exact SrP.at (own_bel hP h) 8 (by omega), (SrP.lt (own_bel hP h)).2⟩ : ∀ w', Bel w w' → w'.cell? ⟨P, 8, none⟩ = some (.int .i64 (p : Int)) ∧ P < w'.heap.size)
  have HPB : Hid (∀ k, k < n1 → ∃ gb cb, ∀ w', Bel w w' → w'.cell? ⟨P, 9, none⟩ = some (.slice (some ⟨gb, 0, none⟩) n1 cb) ∧ w'.cell? ⟨gb, k * 2, none⟩ = some (.int .i64 (cAt bl k).t) ∧ w'.cell? ⟨gb, k * 2 + 1, none⟩ = some (.int .i64 (cAt bl k).c) ∧ w'.cell? ⟨G, k, none⟩ = some (.int .i64 (k : Int)) ∧ P < w'.heap.size ∧ gb < w'.heap.size ∧ G < w'.heap.size ∧ gb < w.heap.size) := (fun k hk => by
    have hkb : k < bl.length := by rw [eb, H1.out]; exact hk
    obtain ⟨gb, cb, rfl, _, hgl⟩ := own_in hB (by omega)
    refine ⟨gb, cb, fun w' h => ?_⟩
    have s9 := SrP.at (own_bel hP h) 9 (by omega)
    simp only [List.getElem_cons_zero, List.getElem_cons_succ] at s9
    rw [eb, H1.out] at s9
    obtain ⟨q0, q1⟩ := SrB.at (own_bel hB h) rfl hkb
    rw [← cAt_eq hkb] at q0 q1
    have hN' := own_bel hN h
    have hG : w'.cell? ⟨G, k, none⟩ = some (.int .i64 (k : Int)) := by
      rw [hN'.cellAt k (by rw [Nat.mul_one, H1.out]; exact hk)]
      unfold intsN
      rw [List.getElem?_map, List.getElem?_range (by rw [H1.out]; exact hk)]
      rfl
    exact ⟨s9, q0, q1, hG, (SrP.lt (own_bel hP h)).2, (World.ownsRow.lt (own_bel hB h) gb rfl).2, (World.ownsRow.lt hN' G rfl).2, hgl⟩ : ∀ k, k < n1 → ∃ gb cb, ∀ w', Bel w w' → w'.cell? ⟨P, 9, none⟩ = some (.slice (some ⟨gb, 0, none⟩) n1 cb) ∧ w'.cell? ⟨gb, k * 2, none⟩ = some (.int .i64 (cAt bl k).t) ∧ w'.cell? ⟨gb, k * 2 + 1, none⟩ = some (.int .i64 (cAt bl k).c) ∧ w'.cell? ⟨G, k, none⟩ = some (.int .i64 (k : Int)) ∧ P < w'.heap.size ∧ gb < w'.heap.size ∧ G < w'.heap.size ∧ gb < w.heap.size)
  have HPl : Hid (∀ k, k < n1 → ∀ w', Bel w w' → Calls Tryz.prog 72 #[.pointer (some ⟨P, 0, none⟩), .int .i64 (k : Int)] w' fun e w'' => e = .returned (.int .i64 (plcB S.back g k)) ∧ w'' = w') := (fun k hk w' h => placeBy_any base P S vb vl vo vi g b1 k w' (own_bel hP h) (t1.bel roadE h) e1 (by rw [H1.out]; exact hk))
  have HPq : Hid (∀ k, k < n1 → ∃ q : Nat, q < n0 ∧ plcB S.back g k = (q : Int)) := (fun k hk => by
    obtain ⟨h1, h2⟩ := plcB_bd hg e1 (show k < S.n1 by rw [H1.out]; exact hk)
    rw [hn0, H0.out] at h2
    exact ⟨(plcB S.back g k).toNat, by omega, by omega⟩ : ∀ k, k < n1 → ∃ q : Nat, q < n0 ∧ plcB S.back g k = (q : Int))
  have hpn : p < n0 := by rw [← H0.out]; exact hp
  obtain ⟨bk, Hbk⟩ : ∃ b, Hid (S.back = b) := ⟨_, (rfl : S.back = _)⟩
  rw [Hst.out, H0.out, H1.out, Hbk.out]
  rw [Hbk.out] at HPl HPq
  rw [H0.out] at m0
  rw [H1.out] at m1
  have hGl : G < w.heap.size := (World.ownsRow.lt hN G rfl).2
  clear hP hB t1 hN hst hp
  go_enter Tryz.func57, Tryz.ntmps57
  go_wp2_with fail
  rw [← HW.out]
  refine (repeatO_any (⟨noT, 0⟩, -1) w.heap.size 1 n0 W XW (by omega) (Nat.le_refl _)).mono ?_
  rintro e w1 ⟨rfl, hO1, hb1⟩
  have hB1 := bel_step hBW hb1
  obtain ⟨L, HL⟩ : ∃ n, Hid (W.heap.size = n) := ⟨_, (rfl : W.heap.size = _)⟩
  have hwL : w.heap.size ≤ L := by rw [← HL.out]; exact hBW.out.size
  rw [HL.out] at hO1 ⊢
  rw [repO_flat] at hO1
  obtain ⟨q8, ql⟩ := HC.out w1 hB1
  have hLr : (List.replicate n0 ((⟨noT, 0⟩, -1) : LegD)).length = n0 := by simp
  obtain ⟨o0, o1, _⟩ := leg_at hO1 hLr (i := p) (by rw [hLr]; exact hpn)
  have f0 := World.ownsRow.frozenAt hO1 (p * 3)
  have f1 := World.ownsRow.frozenAt hO1 (p * 3 + 1)
  have lL := (World.ownsRow.lt hO1 L rfl).2
  have hO2 := leg_set2 hO1 hLr hpn ⟨0, 0⟩
  rw [show (List.replicate n0 ((⟨noT, 0⟩, -1) : LegD)).set p (⟨0, 0⟩, ((List.replicate n0 ((⟨noT, 0⟩, -1) : LegD))[p]'(by omega)).2) = lgL bl bk g (p : Int) n0 0 by rw [lgL_zero hpn]; simp] at hO2
  obtain ⟨w2, Hw2⟩ : ∃ X, Hid (X = (w1.setCell ⟨L, p * 3, none⟩ (.int .i64 0)).setCell ⟨L, p * 3 + 1, none⟩ (.int .i64 0)) := ⟨_, (rfl : (w1.setCell ⟨L, p * 3, none⟩ (.int .i64 0)).setCell ⟨L, p * 3 + 1, none⟩ (.int .i64 0) = _)⟩
  have HB2 : Hid (Bel w w2) := (by rw [Hw2.out]; exact bel_set (bel_set hB1 hwL _) hwL _ : Bel w w2)
  have HO2 : Hid (w2.ownsRow L 114 3 (.slice (some ⟨L, 0, none⟩) n0 n0) n0 ((lgL bl bk g (p : Int) n0 0).flatMap legCs)) := (by rw [Hw2.out]; exact hO2 : w2.ownsRow L 114 3 (.slice (some ⟨L, 0, none⟩) n0 n0) n0 ((lgL bl bk g (p : Int) n0 0).flatMap legCs))
  have hpI : (p : Int) < (n0 : Int) := by omega
  clear hO1 hO2 p0 pl XW hb1 hB1 hBW
  go_wp2
  rw [← Hw2.out]
  clear o0 o1 f0 f1 lL q8 ql Hw2
  go_loopw [7, 8, 31] (fun _ _ i wr => ∃ k : Nat, k ≤ n1 ∧ i = .int .i64 k ∧ Hid (wr.ownsRow L 114 3 (.slice (some ⟨L, 0, none⟩) n0 n0) n0 ((lgL bl bk g (p : Int) n0 k).flatMap legCs)) ∧ Hid (Bel w wr)) (fun _ _ i _ => n1 - (intOf i).toNat)
  case atStart => exact ⟨0, Nat.zero_le _, rfl, HO2, HB2⟩
  case round =>
    clear HO2 HB2
    obtain ⟨k, hk, rfl, HO, HB⟩ := hrel
    by_cases hlt : k < n1
    · obtain ⟨gb, cb, hcl⟩ := HPB.out k hlt
      obtain ⟨q, hq, hqe⟩ := HPq.out k hlt
      have cP := HPl.out k hlt wr HB.out
      rw [hqe] at cP
      have hltI : (k : Int) < (n1 : Int) := by omega
      have hqI : (q : Int) < (n0 : Int) := by omega
      obtain ⟨_, _, _, g0, _, _, gl, gw⟩ := hcl wr HB.out
      have hLl := lgL_len bl bk g (p : Int) n0 k
      have hLq : (lgL bl bk g (p : Int) n0 k)[q]'(by omega) = lgF bl bk g (p : Int) k q := lgL_at hq
      obtain ⟨z, Hz⟩ : ∃ z, Hid (lgF bl bk g (p : Int) k q = z) := ⟨_, (rfl : lgF bl bk g (p : Int) k q = _)⟩
      obtain ⟨c, Hc⟩ : ∃ c, Hid (cAt bl k = c) := ⟨_, (rfl : cAt bl k = _)⟩
      obtain ⟨r, Hr⟩ : ∃ r, Hid (cLtB c z.1 = r) := ⟨_, (rfl : cLtB c z.1 = _)⟩
      have hcl2 : ∀ w', Bel wr w' → w'.cell? ⟨P, 9, none⟩ = some (.slice (some ⟨gb, 0, none⟩) n1 cb) ∧ w'.cell? ⟨gb, k * 2, none⟩ = some (.int .i64 c.t) ∧ w'.cell? ⟨gb, k * 2 + 1, none⟩ = some (.int .i64 c.c) ∧ w'.cell? ⟨L, q * 3, none⟩ = some (.int .i64 z.1.t) ∧ w'.cell? ⟨L, q * 3 + 1, none⟩ = some (.int .i64 z.1.c) ∧ P < w'.heap.size ∧ gb < w'.heap.size ∧ L < w'.heap.size := fun w' h => by
        obtain ⟨h1, h2, h3, _, h5, h6, _⟩ := hcl w' (bel_step HB.out h)
        rw [Hc.out] at h2 h3
        obtain ⟨k1, k2, _⟩ := leg_at (own_bel HO.out h) hLl (i := q) (by rw [hLl]; exact hq)
        rw [hLq, Hz.out] at k1 k2
        exact ⟨h1, h2, h3, k1, k2, h5, h6, (World.ownsRow.lt (own_bel HO.out h) L rfl).2⟩
      have cBf : ∀ w', Calls Tryz.prog 73 #[cstV c, cstV z.1] w' fun e w'' => e = .returned (.bool r) ∧ Bel w' w'' := fun w' => before_r c z.1 r w' Hr.out
      have b0 : Bel wr wr := Bel.refl _
      have Hcl : Hid (∀ w', Bel wr w' → w'.cell? ⟨P, 9, none⟩ = some (.slice (some ⟨gb, 0, none⟩) n1 cb) ∧ w'.cell? ⟨gb, k * 2, none⟩ = some (.int .i64 c.t) ∧ w'.cell? ⟨gb, k * 2 + 1, none⟩ = some (.int .i64 c.c) ∧ w'.cell? ⟨L, q * 3, none⟩ = some (.int .i64 z.1.t) ∧ w'.cell? ⟨L, q * 3 + 1, none⟩ = some (.int .i64 z.1.c) ∧ P < w'.heap.size ∧ gb < w'.heap.size ∧ L < w'.heap.size) := hcl2
      have hS0 : wr.drew.cell? ⟨P, 9, none⟩ = some (.slice (some ⟨gb, 0, none⟩) n1 cb) ∧ wr.drew.cell? ⟨gb, k * 2, none⟩ = some (.int .i64 c.t) ∧ wr.drew.cell? ⟨gb, k * 2 + 1, none⟩ = some (.int .i64 c.c) ∧ wr.drew.cell? ⟨L, q * 3, none⟩ = some (.int .i64 z.1.t) ∧ wr.drew.cell? ⟨L, q * 3 + 1, none⟩ = some (.int .i64 z.1.c) ∧ P < wr.drew.heap.size ∧ gb < wr.drew.heap.size ∧ L < wr.drew.heap.size := hcl2 _ b0.drew
      have HS0 : Hid (wr.drew.cell? ⟨P, 9, none⟩ = some (.slice (some ⟨gb, 0, none⟩) n1 cb) ∧ wr.drew.cell? ⟨gb, k * 2, none⟩ = some (.int .i64 c.t) ∧ wr.drew.cell? ⟨gb, k * 2 + 1, none⟩ = some (.int .i64 c.c) ∧ wr.drew.cell? ⟨L, q * 3, none⟩ = some (.int .i64 z.1.t) ∧ wr.drew.cell? ⟨L, q * 3 + 1, none⟩ = some (.int .i64 z.1.c) ∧ P < wr.drew.heap.size ∧ gb < wr.drew.heap.size ∧ L < wr.drew.heap.size) := hS0
      clear hcl hcl2 hS0
      go_wp2_with fail
      refine cP.mono ?_
      rintro e wx ⟨rfl, hwx⟩
      obtain rfl := hwx.symm
      clear cP g0 gl
      go_upto_region 7 with fail
      refine wp_region_noPanic ?_
      refine wp_region_held_drew (S := fun w' => w'.cell? ⟨P, 9, none⟩ = some (.slice (some ⟨gb, 0, none⟩) n1 cb) ∧ w'.cell? ⟨gb, k * 2, none⟩ = some (.int .i64 c.t) ∧ w'.cell? ⟨gb, k * 2 + 1, none⟩ = some (.int .i64 c.c) ∧ w'.cell? ⟨L, q * 3, none⟩ = some (.int .i64 z.1.t) ∧ w'.cell? ⟨L, q * 3 + 1, none⟩ = some (.int .i64 z.1.c) ∧ P < w'.heap.size ∧ gb < w'.heap.size ∧ L < w'.heap.size) (by kernel_rfl) HS0.out (fun hHeld => ?_)
      have hY0 : Bel wr wr.drew := b0.drew
      generalize wr.drew = Y at hHeld hY0 ⊢
      refine tk 0 hHeld ?_; refine tk 1 hHeld ?_; refine tk 2 hHeld ?_; refine tk 3 hHeld ?_; refine tk 4 hHeld ?_; refine tk 5 hHeld ?_; refine tk 6 hHeld ?_; refine tk 7 hHeld ?_; refine tk 8 hHeld ?_; refine tk 9 hHeld ?_; refine tk 10 hHeld ?_; refine tk 11 hHeld ?_
      refine rd1 12 (fun K hK => ?_)
      go_simp
      refine (cBf _).mono ?_
      rintro e Z ⟨rfl, hbZ⟩
      have hZ := bel_step hY0 hbZ
      go_wp2_with fail
      refine hK.out _ _ (Hcl.out Z hZ) (fun hHeld' => ?_)
      clear hK K hHeld
      have hHeld := hHeld'
      clear hHeld'
      try simp only [Act.put, List.setIfInBounds_toArray, List.set_cons_zero, List.set_cons_succ]
      refine wpAnyH_done (by kernel_rfl) ?_ _
      refine NoPanic.normal ?_
      obtain ⟨h1, h2, h3, h4, h5, h6, h7, h8⟩ := hHeld
      have hOZ := own_bel HO.out hZ
      cases r
      · have HOn : Hid (Z.ownsRow L 114 3 (.slice (some ⟨L, 0, none⟩) n0 n0) n0 ((lgL bl bk g (p : Int) n0 (k + 1)).flatMap legCs)) := (by rw [lgL_no hqe (by rw [Hc.out, Hz.out]; exact Hr.out)]; exact hOZ : Z.ownsRow L 114 3 (.slice (some ⟨L, 0, none⟩) n0 n0) n0 ((lgL bl bk g (p : Int) n0 (k + 1)).flatMap legCs))
        have HBn : Hid (Bel w Z) := bel_step HB.out hZ
        clear hOZ hZ hbZ hY0 h1 h2 h3 h4 h5 h6 h7 h8
        go_wp2
        go_roundw
        case rel => exact ⟨k + 1, by omega, by go_num, HOn, HBn⟩
        case measure => simp [intOf]; omega
      · have hOn := leg_set hOZ hLl hq (c, (k : Int))
        rw [show (lgL bl bk g (p : Int) n0 k).set q (c, (k : Int)) = lgL bl bk g (p : Int) n0 (k + 1) by rw [lgL_yes hq hqe (by rw [Hc.out, Hz.out]; exact Hr.out), Hc.out]] at hOn
        have HOn : Hid ((((Z.setCell ⟨L, q * 3, none⟩ (.int .i64 c.t)).setCell ⟨L, q * 3 + 1, none⟩ (.int .i64 c.c)).setCell ⟨L, q * 3 + 2, none⟩ (.int .i64 (k : Int))).ownsRow L 114 3 (.slice (some ⟨L, 0, none⟩) n0 n0) n0 ((lgL bl bk g (p : Int) n0 (k + 1)).flatMap legCs)) := hOn
        have HBn : Hid (Bel w (((Z.setCell ⟨L, q * 3, none⟩ (.int .i64 c.t)).setCell ⟨L, q * 3 + 1, none⟩ (.int .i64 c.c)).setCell ⟨L, q * 3 + 2, none⟩ (.int .i64 (k : Int)))) := bel_set (bel_set (bel_set (bel_step HB.out hZ) hwL _) hwL _) hwL _
        obtain ⟨_, _, o2⟩ := leg_at hOZ hLl (i := q) (by rw [hLl]; exact hq)
        have f0 := World.ownsRow.frozenAt hOZ (q * 3)
        have f1 := World.ownsRow.frozenAt hOZ (q * 3 + 1)
        have f2 := World.ownsRow.frozenAt hOZ (q * 3 + 2)
        clear hOZ hOn hZ hbZ hY0
        go_wp2
        go_roundw
        case rel => exact ⟨k + 1, by omega, by go_num, HOn, HBn⟩
        case measure => simp [intOf]; omega
    · have e : n1 = k := by omega
      have HOE : Hid (wr.ownsRow w.heap.size 114 3 (.slice (some ⟨L, 0, none⟩) n0 n0) n0 ((lgL bl bk g (p : Int) n0 n1).flatMap legCs)) := (by
        have h := HO.out
        rw [← e] at h
        exact own_lo h hwL : wr.ownsRow w.heap.size 114 3 (.slice (some ⟨L, 0, none⟩) n0 n0) n0 ((lgL bl bk g (p : Int) n0 n1).flatMap legCs))
      clear HO HPB HPl HPq
      have hge : ¬ (k : Int) < (n1 : Int) := by omega
      clear e
      go_wp2
      go_ret
      exact ⟨L, rfl, HOE.out, HB.out⟩
end Go.Proofs.YtdlgehnoiaoneaaGreatDoor
