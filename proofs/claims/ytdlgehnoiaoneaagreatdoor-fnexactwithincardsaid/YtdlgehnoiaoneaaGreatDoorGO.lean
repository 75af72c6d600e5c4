/-
  math/bits.Mul of one and a small number: contract.
  slices.Repeat of one cost: contract.
  slices.Clone of a row of numbers: contract.
  How a search begins, in memory: what it is made of.
-/
import Derived.Test.YtdlgehnoiaoneaaGreatDoorGJ
import Derived.Laws.Bits64b
import Derived.WalkKit
import Derived.Test.YtdlgehnoiaoneaaGreatDoorGA
import Derived.Test.YtdlgehnoiaoneaaGreatDoorGK
import Derived.Laws.CopyOwn
import Derived.Test.YtdlgehnoiaoneaaGreatDoorGM
import Derived.Deep.AppendLies
import Derived.Test.YtdlgehnoiaoneaaGreatDoorGN
namespace Go.Proofs.YtdlgehnoiaoneaaGreatDoor
open Go.RowKit Go.Maps

set_option maxRecDepth 100000 in
set_option maxHeartbeats 2000000 in
theorem mul64_one (n : Nat) (hn : n ≤ 1000000) (w : World) :
    Calls Tryz.prog 96 #[.int .u64 1, .int .u64 (n : Int)] w fun e w' => e = .returned (.tuple #[.int .u64 0, .int .u64 (n : Int)]) ∧ w' = w := by
  have h1 : bits .and .u64 (1 : Int) 4294967295 = 1 := by kernel_rfl
  have h0 : bits .and .u64 (0 : Int) 4294967295 = 0 := by kernel_rfl
  have h2 : bits .and .u64 (n : Int) 4294967295 = (n : Int) := by
    have h := bits_and_u64_nat n 4294967295 (by omega) (by omega)
    have e : n &&& 4294967295 = n % 4294967296 := Nat.and_two_pow_sub_one_eq_mod n 32
    rw [e, Nat.mod_eq_of_lt (by omega)] at h
    exact h
  have hd : (n : Int) / 4294967296 = 0 := by omega
  have hd1 : (1 : Int) / 4294967296 = 0 := by omega
  have hw : IntKind.u64.wrap (n : Int) = (n : Int) := by rw [IntKind.wrap_u64]; omega
  go_enter Tryz.func96, Tryz.ntmps96
  go_wp2
  exact bodyPost_ret (v := .tuple #[.int .u64 0, .int .u64 (n : Int)]) (by simp [results, Tryz.results96, go_sem]) rfl ⟨rfl, rfl⟩
theorem mul_one (n : Nat) (hn : n ≤ 1000000) (w : World) :
    Calls Tryz.prog 87 #[.int .u64 1, .int .u64 (n : Int)] w fun e w' => e = .returned (.tuple #[.int .u64 0, .int .u64 (n : Int)]) ∧ w' = w := by
  go_enter Tryz.func87, Tryz.ntmps87
  go_wp2_with fail
  refine (mul64_one n hn w).mono ?_
  rintro e w1 ⟨rfl, rfl⟩
  go_wp2
  exact bodyPost_ret (v := .tuple #[.int .u64 0, .int .u64 (n : Int)]) (by simp [results, Tryz.results87, go_sem]) rfl ⟨rfl, rfl⟩
end Go.Proofs.YtdlgehnoiaoneaaGreatDoor

namespace Go.Proofs.YtdlgehnoiaoneaaGreatDoor
open Go.RowKit Go.Maps

theorem run_copy_rowq {P : Program} (w : World) (dT sT ty elem : TypeId) (g o dLen dCap : Nat) (a : Addr) (sLen sCap : Nat) (cur : Array Value) (t : TypeId) (cs : List Value) (q m : Nat)
    (hu : P.underlying dT = some (.slice elem)) (hs : (P.info? elem).map (·.size) = some q)
    (hg : w.heap[g]? = some (.cells cur t (0, 0))) (hm : Nat.min sLen dLen = m) (hn : cs.length = m * q)
    (hsrc : ∀ j v, cs[j]? = some v → w.cell? (a.add j) = some v) (hfit : o + cs.length ≤ cur.size) (h1 : ∀ v ∈ cs, v.oneCell' = true) :
    (Builtin.copy_ #[dT, sT] ty #[.slice (some ⟨g, o, none⟩) dLen dCap, .slice (some a) sLen sCap]).run P w =
      .ok (goInt m) (w.setRow g (cur.toList.take o ++ cs ++ cur.toList.drop (o + cs.length)).toArray) := by
  have hl := run_loadCells_list (P := P) w a cs hsrc
  have hst := run_storeCells_at P g o t cs 0 cur w hg (by simpa using hfit) h1
  cases hq : P.info? elem with
  | none => simp [hq] at hs
  | some i =>
    have hi : i.size = q := by simpa [hq] using hs
    simp [Builtin.copy_, run_underlying hu, Builtin.lenOf, Builtin.firstCells, sizeOf, typeInfo, hq, hi, hm, ← hn, hl, hst]
theorem step_copyq {P : Program} (w : World) {ops : Array Oper} {o : Oper} {a : Act} {K : Act → World → Prop} {Q : Exit → Act → World → Prop} {E : Prop} (hgd : o.guard = none) (d s : Operand) (dT sT : TypeId)
    (ho : o.op = .call { callee := .builtin .copy, args := #[d, s], argTypes := #[dT, sT] }) (dv sv rv : Value) (hd : a.eval d = dv) (hs : a.eval s = sv) (w' : World)
    (hrun : ∀ ty, (Builtin.copy_ #[dT, sT] ty #[dv, sv]).run P w = .ok rv w') (h : K (a.put o.dst rv) w') :
    if Region.wanted o (yielded ops a.tmps) = true then Oper.wp P o a w K Q else E := by
  have hw : Region.wanted o (yielded ops a.tmps) = true := by simp [Region.wanted, hgd]
  rw [if_pos hw]
  unfold Oper.wp
  simp [execOp, ho, resolve, invoke, builtin, hd, hs, hrun, Result.andThen]
  exact h
theorem bel_setRow {w V : World} {g : Nat} (h : Bel w V) (hg : w.heap.size ≤ g) (cs : Array Value) : Bel w (V.setRow g cs) :=
  h.out.trans ⟨rfl, rfl, rfl, by simp [World.setRow], fun k hk => Go.setRow_other V g k cs (by omega)⟩
/-- The same cost many times. -/
def repC (z : Cst) (n : Nat) : List Value := (List.replicate n z).flatMap cstCs
theorem repC_len (z : Cst) : ∀ n, (repC z n).length = n * 2
  | 0 => rfl
  | n + 1 => by
    have := repC_len z n
    unfold repC at this ⊢
    rw [List.replicate_succ, List.flatMap_cons, List.length_append, this]
    simp [cstCs]
    omega
theorem repC_add (z : Cst) (a b : Nat) : repC z (a + b) = repC z a ++ repC z b := by
  unfold repC
  rw [← List.flatMap_append, List.replicate_append_replicate]
theorem repC_ones (z : Cst) (n : Nat) : ∀ u ∈ repC z n, u.oneCell' = true := fun u hu => by
  unfold repC at hu
  obtain ⟨c, _, hc⟩ := List.mem_flatMap.1 hu
  simp only [cstCs, List.mem_cons, List.not_mem_nil, or_false] at hc
  rcases hc with rfl | rfl <;> rfl
theorem addr_at (g o j : Nat) : (⟨g, o, none⟩ : Addr).add j = ⟨g, o + j, none⟩ := by unfold Addr.add; split <;> simp_all
theorem infoCst : (Tryz.prog.info? 112).map (fun i => (i.zero, i.size, i.bytes)) = some (some (.agg #[.int .i64 0, .int .i64 0]), 2, 16) := by kernel_rfl
/-- The first k of n costs are laid. -/
structure RpI (w : World) (g n : Nat) (z : Cst) (k : Nat) (wr : World) (cur : Array Value) : Prop where
  row : wr.heap[g]? = some (.cells cur 112 (0, 0))
  size : cur.size = n * 2
  low : cur.toList.take (k * 2) = repC z k
  bel : Bel w wr
theorem RpI.copy {w : World} {g n : Nat} {z : Cst} {k : Nat} {wr : World} {cur : Array Value} (h : RpI w g n z k wr cur) (hg : w.heap.size ≤ g) {m : Nat} (hm : k + m ≤ n) : RpI w g n z (k + m) (wr.setRow g (cur.toList.take (k * 2) ++ repC z m ++ cur.toList.drop (k * 2 + (repC z m).length)).toArray) (cur.toList.take (k * 2) ++ repC z m ++ cur.toList.drop (k * 2 + (repC z m).length)).toArray := by
  have hl := repC_len z m
  have hs := h.size
  refine ⟨setRow_heap wr g cur _ _ _ h.row, ?_, ?_, bel_setRow h.bel hg _⟩
  · simp [hl]
    omega
  · rw [h.low, repC_add]
    have e : (repC z k ++ repC z m).length = (k + m) * 2 := by rw [List.length_append, repC_len, repC_len]; omega
    rw [List.toList_toArray, ← e, List.take_left']
    rfl
set_option maxRecDepth 100000 in
set_option maxHeartbeats 4000000 in
theorem repeat_any (z : Cst) (B c n : Nat) (w : World) (hX : Blk w B [.int .i64 z.t, .int .i64 z.c]) (hn : n ≤ 1000000) (_hc1 : 1 ≤ c) :
    Calls Tryz.prog 82 #[.slice (some ⟨B, 0, none⟩) 1 c, .int .i64 (n : Int)] w fun e w' => e = .returned (.slice (some ⟨w.heap.size, 0, none⟩) n n) ∧ w'.ownsRow w.heap.size 112 2 (.slice (some ⟨w.heap.size, 0, none⟩) n n) n (repC z n) ∧ Bel w w' := by
  obtain ⟨i0, hi0, hz0, hz1, hz2⟩ := info_parts infoCst
  have hsz : (Tryz.prog.info? 112).map (·.size) = some 2 := by rw [hi0]; simp [hz1]
  have hmk : ∀ w : World, (Instr.makeSlice 125 (.int .i64 n) (.int .i64 n)).run Tryz.prog w = .ok (.slice (some ⟨w.heap.size, 0, none⟩) n n) (w.alloc (.cells (madeCells #[.int .i64 0, .int .i64 0] (n * 2)) 112)) := fun w => by
    have := run_make (P := Tryz.prog) w 125 112 i0 (.agg #[.int .i64 0, .int .i64 0]) Tryz.underlying125 hi0 hz0 .i64 .i64 n n (by omega) (by omega) (by rw [hz2]; omega) (by omega)
    rw [hz1] at this
    exact this
  obtain ⟨W, HW⟩ : ∃ W, Hid (W = w.alloc (.cells (madeCells #[.int .i64 0, .int .i64 0] (n * 2)) 112)) := ⟨_, (rfl : w.alloc (.cells (madeCells #[.int .i64 0, .int .i64 0] (n * 2)) 112) = _)⟩
  have hRow : W.heap[w.heap.size]? = some (.cells (madeCells #[.int .i64 0, .int .i64 0] (n * 2)) 112 (0, 0)) := by rw [HW.out]; exact heap_alloc_new w _
  have hB : Bel w W := by rw [HW.out]; exact bel_alloc (Bel.refl _) _
  obtain ⟨g, Hg⟩ : ∃ g, w.heap.size = g := ⟨_, rfl⟩
  have HI0 : Hid (RpI w g n z 0 W (madeCells #[.int .i64 0, .int .i64 0] (n * 2))) := ⟨by rw [← Hg]; exact hRow, by simp [madeCells], by simp [repC], hB⟩
  obtain ⟨m, Hm⟩ : ∃ m, Hid (Nat.min 1 n = m) := ⟨_, (rfl : Nat.min 1 n = _)⟩
  have hm1 : m ≤ n ∧ m ≤ 1 ∧ (m = 0 → n = 0) := by have := Hm.out; show m ≤ n ∧ m ≤ 1 ∧ (m = 0 → n = 0); simp only [Nat.min_def] at this; split at this <;> omega
  have HXW : Hid (Blk W B [.int .i64 z.t, .int .i64 z.c]) := hX.bel hB
  obtain ⟨U, HU⟩ : ∃ U, Hid (U = (((madeCells #[.int .i64 0, .int .i64 0] (n * 2)).toList.take (0 * 2) ++ repC z m ++ (madeCells #[.int .i64 0, .int .i64 0] (n * 2)).toList.drop (0 * 2 + (repC z m).length)).toArray : Array Value)) := ⟨_, (rfl : (_ : Array Value) = _)⟩
  have HI1 : Hid (RpI w g n z m (W.setRow g U) U) := (by
    have h := HI0.out.copy (by omega) (m := m) (by omega)
    rw [Nat.zero_add, ← HU.out] at h
    exact h : RpI w g n z m (W.setRow g U) U)
  have hcp : ∀ ty, (Builtin.copy_ #[125, 125] ty #[.slice (some ⟨g, 0, none⟩) n n, .slice (some ⟨B, 0, none⟩) 1 c]).run Tryz.prog W = .ok (goInt m) (W.setRow g U) := fun ty => by
    rw [HU.out]
    have h := run_copy_rowq (P := Tryz.prog) W 125 125 ty 112 g 0 n n ⟨B, 0, none⟩ 1 c _ _ (repC z m) 2 m Tryz.underlying125 hsz HI0.out.row Hm.out (repC_len z m) (fun j v hv => ?_) (by rw [repC_len, HI0.out.size]; omega) (repC_ones z m)
    · simpa using h
    · rw [addr_at]
      obtain rfl | rfl : m = 0 ∨ m = 1 := by omega
      · simp [repC] at hv
      · have e : repC z 1 = [.int .i64 z.t, .int .i64 z.c] := rfl
        rw [e] at hv
        match j, hv with
        | 0, hv => simp at hv; rw [← hv]; exact HXW.out.cell 0 (by simp)
        | 1, hv => simp at hv; rw [← hv]; exact HXW.out.cell 1 (by simp)
        | j + 2, hv => simp at hv
  have hn0 : ¬ (n : Int) < 0 := by omega
  have hcv : IntKind.u64.wrap (n : Int) = (n : Int) := by rw [IntKind.wrap_u64]; omega
  have hcv1 : IntKind.u64.wrap (1 : Int) = 1 := by rw [IntKind.wrap_u64]; omega
  have hcvi : IntKind.i64.wrap (n : Int) = (n : Int) := by rw [IntKind.wrap_i64]; omega
  have hgt : ¬ (9223372036854775807 : Int) < (n : Int) := by omega
  rw [Hg]
  clear hX hRow HI0
  go_enter Tryz.func82, Tryz.ntmps82
  go_wp2_with fail
  refine (mul_one n hn w).mono ?_
  rintro e w1 ⟨rfl, hw1⟩
  obtain rfl := hw1.symm
  go_upto_region 7 with fail
  rw [← HW.out]
  go_wp2
  go_loopw [8] (fun i wr => ∃ (k : Nat) (cur : Array Value), i = .int .i64 k ∧ k ≤ n ∧ (k = 0 → n = 0) ∧ Hid (RpI w g n z k wr cur)) (fun i _ => n - (intOf i).toNat)
  case atStart => exact ⟨m, U, by first | rfl | simp [goInt], hm1.1, hm1.2.2, HI1⟩
  case round =>
    clear HI1 hcp HU HXW
    obtain ⟨k, cur, rfl, hk, hk0, HI⟩ := hrel
    by_cases hlt : k < n
    · obtain ⟨m2, Hm2⟩ : ∃ m2, Hid (Nat.min k (n - k) = m2) := ⟨_, (rfl : Nat.min k (n - k) = _)⟩
      have hm2 : k + m2 ≤ n ∧ m2 ≤ k ∧ 0 < m2 := by have := Hm2.out; simp only [Nat.min_def] at this; split at this <;> omega
      obtain ⟨V, HV⟩ : ∃ U, Hid (U = ((cur.toList.take (k * 2) ++ repC z m2 ++ cur.toList.drop (k * 2 + (repC z m2).length)).toArray : Array Value)) := ⟨_, (rfl : (_ : Array Value) = _)⟩
      have HI2 : Hid (RpI w g n z (k + m2) (wr.drew.setRow g V) V) := (by
        have h0 : RpI w g n z k wr.drew cur := ⟨HI.out.row, HI.out.size, HI.out.low, HI.out.bel.drew⟩
        have h := h0.copy (by omega) (m := m2) (by omega)
        rw [← HV.out] at h
        exact h : RpI w g n z (k + m2) (wr.drew.setRow g V) V)
      have HCP : Hid (∀ ty, (Builtin.copy_ #[125, 125] ty #[.slice (some ⟨g, k * 2, none⟩) (n - k) (n - k), .slice (some ⟨g, 0, none⟩) k n]).run Tryz.prog wr.drew = .ok (goInt m2) (wr.drew.setRow g V)) := fun ty => by
        rw [HV.out]
        refine run_copy_rowq (P := Tryz.prog) wr.drew 125 125 ty 112 g (k * 2) (n - k) (n - k) ⟨g, 0, none⟩ k n cur _ (repC z m2) 2 m2 Tryz.underlying125 hsz HI.out.row Hm2.out (repC_len z m2) (fun j v hv => ?_) (by rw [repC_len, HI.out.size]; omega) (repC_ones z m2)
        rw [addr_at, Nat.zero_add]
        have hj : j < m2 * 2 := by
          rcases Nat.lt_or_ge j (m2 * 2) with h | h
          · exact h
          · rw [List.getElem?_eq_none (by rw [repC_len]; omega)] at hv
            exact nomatch hv
        have e : (repC z k)[j]? = some v := by
          obtain ⟨d, rfl⟩ : ∃ d, k = m2 + d := ⟨k - m2, by omega⟩
          rw [repC_add, List.getElem?_append_left (by rw [repC_len]; omega)]
          exact hv
        rw [← HI.out.low, List.getElem?_take_of_lt (by omega)] at e
        have e2 : cur[j]? = some v := by rw [← Array.getElem?_toList]; exact e
        show wr.cell? ⟨g, j, none⟩ = some v
        simp [World.cell?, HI.out.row, e2]
      have hkI : (k : Int) < (n : Int) := by omega
      have hkI2 : (k : Int) ≤ (n : Int) := by omega
      have hkn2 : k ≤ n := by omega
      have hw2 : IntKind.i64.wrap ((k : Int) + (m2 : Int)) = ((k + m2 : Nat) : Int) := by rw [IntKind.wrap_i64]; omega
      go_upto_region 9 with fail
      refine wp_region_noPanic ?_
      refine wp_region_held_drew (S := (fun _ => True)) (by kernel_rfl) (trivial) (fun hHeld => ?_)
      refine tk 0 hHeld ?_; refine tk 1 hHeld ?_; refine tk 2 hHeld ?_; refine tk 3 hHeld ?_; refine tk 4 hHeld ?_; refine tk 5 hHeld ?_
      refine tk 6 hHeld ?_
      refine rd1 7 (fun K hK => ?_)
      refine step_copyq _ rfl _ _ _ _ rfl (.slice (some ⟨g, k * 2, none⟩) (n - k) (n - k)) (.slice (some ⟨g, 0, none⟩) k n) (goInt m2) (by first | rfl | (simp [Act.eval]; omega)) (by first | rfl | simp [Act.eval]) (wr.drew.setRow g V) HCP.out ?_
      refine hK.out _ _ (trivial) (fun hHeld' => ?_)
      clear hK K hHeld
      have hHeld := hHeld'
      clear hHeld'
      try simp only [Act.put, List.setIfInBounds_toArray, List.set_cons_zero, List.set_cons_succ]
      refine tk 8 hHeld ?_; refine tk 9 hHeld ?_
      refine wpAnyH_done (by kernel_rfl) ?_ _
      refine NoPanic.normal ?_
      go_wp2
      go_roundw
      case rel => exact ⟨k + m2, V, by first | rfl | go_num | (rw [← hw2]; rfl), by omega, by omega, HI2⟩
      case measure => simp [intOf]; omega
    · obtain rfl : k = n := by omega
      have HO : Hid (wr.ownsRow g 112 2 (.slice (some ⟨g, 0, none⟩) k k) k (repC z k)) := ⟨repC_len z k, .inr ⟨g, k, cur, rfl, Nat.le_refl _, HI.out.row, Nat.le_refl _, by unfold maxLen; omega, HI.out.size, HI.out.low⟩⟩
      go_wp2
      go_ret
      exact ⟨rfl, HO.out, HI.out.bel⟩
end Go.Proofs.YtdlgehnoiaoneaaGreatDoor

namespace Go.Proofs.YtdlgehnoiaoneaaGreatDoor
open Go.RowKit Go.Maps

theorem intsN_ones (xs : List Nat) : ∀ u ∈ intsN xs, u.oneCell' = true := fun u hu => by
  unfold intsN at hu
  obtain ⟨x, _, rfl⟩ := List.mem_map.1 hu
  rfl
theorem infoCl : (Tryz.prog.info? 2).map (fun i => (i.zero, i.size, i.bytes)) = some (some (.int .i64 0), 1, 8) := by kernel_rfl

set_option maxRecDepth 100000 in
set_option maxHeartbeats 2000000 in
theorem clone_any (lo : Nat) (v : Value) (xs : List Nat) (n : Nat) (w : World) (hr : w.ownsRow lo 2 1 v n (intsN xs)) (hn : xs.length = n) (hm : n ≤ 1000000) :
    Calls Tryz.prog 84 #[v] w fun e w' => ∃ a c, e = .returned (.slice a n c) ∧ (0 < n → w'.ownsRow w.heap.size 2 1 (.slice a n c) n (intsN xs)) ∧ Bel w w' := by
  obtain ⟨i0, hi0, hz0, hz1, hz2⟩ := info_parts infoCl
  obtain ⟨a, c, rfl⟩ := own_shape hr
  by_cases h0 : n = 0
  · subst h0
    cases a with
    | none =>
      have heq := fun w : World => Go.Lib.run_eql_slice_nil (P := Tryz.prog) w 46 2 none 0 c 0 0 Tryz.underlying46
      clear hr
      go_enter Tryz.func84, Tryz.ntmps84
      go_wp2
      go_ret
      exact ⟨_, _, rfl, (fun h => absurd h (Nat.lt_irrefl _)), Bel.refl _⟩
    | some A =>
      have heq := fun w : World => Go.Lib.run_eql_slice_nil (P := Tryz.prog) w 46 2 (some A) 0 c 0 0 Tryz.underlying46
      obtain ⟨W, HW⟩ : ∃ W, Hid (W = w.alloc (.cells #[] 2)) := ⟨_, (rfl : w.alloc (.cells #[] 2) = _)⟩
      have hown : W.ownsRow w.heap.size 2 1 (.slice (some ⟨w.heap.size, 0, none⟩) 0 0) 0 [] := by
        rw [HW.out]
        exact World.ownsRow_lit w #[] 0 (Nat.le_refl _) (Nat.zero_le _) rfl
      have hrun := fun ty => run_append_zero (P := Tryz.prog) (w := W) w.heap.size 46 ty 2 i0 1 Tryz.underlying46 hi0 _ 0 [] hown (some A) c
      have hB : Bel w W := by rw [HW.out]; exact bel_alloc (Bel.refl _) _
      rw [HW.out] at hrun
      clear hr hown
      go_enter Tryz.func84, Tryz.ntmps84
      go_wp2
      rw [← HW.out]
      go_ret
      exact ⟨_, _, rfl, (fun h => absurd h (Nat.lt_irrefl _)), hB⟩
  · obtain ⟨g, cap, e, _, hg⟩ := own_in hr (by omega)
    simp only [Value.slice.injEq, true_and] at e
    obtain ⟨rfl, rfl⟩ := e
    have heq := fun w : World => Go.Lib.run_eql_slice_nil (P := Tryz.prog) w 46 2 (some ⟨g, 0, none⟩) n c 0 0 Tryz.underlying46
    obtain ⟨W, HW⟩ : ∃ W, Hid (W = w.alloc (.cells #[] 2)) := ⟨_, (rfl : w.alloc (.cells #[] 2) = _)⟩
    have hown0 : (w.alloc (.cells #[] 2)).ownsRow w.heap.size 2 1 (.slice (some ⟨w.heap.size, 0, none⟩) 0 0) 0 [] := World.ownsRow_lit w #[] 0 (Nat.le_refl _) (Nat.zero_le _) rfl
    have HN : Hid (∀ j u, (intsN xs)[j]? = some u → (w.alloc (.cells #[] 2)).cell? (Addr.add ⟨g, 0, none⟩ j) = some u) := fun j u hu => by
      have hr' := hr.alloc (.cells #[] 2)
      have hj : j < n := by
        rcases Nat.lt_or_ge j n with h | h
        · exact h
        · rw [List.getElem?_eq_none (by rw [intsN_len]; omega)] at hu
          exact nomatch hu
      have h1 := hr'.cellAt j (by omega)
      rw [hu] at h1
      rw [show Addr.add ⟨g, 0, none⟩ j = ⟨g, j, none⟩ by unfold Addr.add; split <;> simp_all]
      exact h1
    have hB : Bel w (w.alloc (.cells #[] 2)) := bel_alloc (Bel.refl _) _
    clear hr
    go_enter Tryz.func84, Tryz.ntmps84
    go_wp2_with (first
      | (at_builtin; refine wpList_append_lies _ rfl _ _ 46 rfl w.heap.size 2 i0 (.int .i64 0) 1 8 Tryz.underlying46 hi0 hz0 hz1 hz2 rfl (by decide) _ _ _ rfl hown0 ⟨g, 0, none⟩ n c (intsN xs) rfl (by rw [intsN_len]; omega) HN.out (intsN_ones xs) (by omega) (by unfold maxLen; omega) (by omega) (by simp) (w.heap.size + 1) (by simp) ?_)
      | go_in)
    intro g2 cap2 w2 hown2 hgrow hat _
    have hB2 : Bel w w2 := bel_grow hB hgrow (fun j e => by simp [Value.ownBlock] at e; omega)
    have HO : Hid (w2.ownsRow w.heap.size 2 1 (.slice (some ⟨g2, 0, none⟩) n cap2) n (intsN xs)) := (by simpa using hown2 : w2.ownsRow w.heap.size 2 1 (.slice (some ⟨g2, 0, none⟩) n cap2) n (intsN xs))
    clear hown2 hgrow hat
    go_wp2
    go_ret
    exact ⟨_, _, by first | rfl | (congr 2; omega) | simp, fun _ => HO.out, hB2⟩
end Go.Proofs.YtdlgehnoiaoneaaGreatDoor

namespace Go.Proofs.YtdlgehnoiaoneaaGreatDoor
open Go.RowKit Go.Maps

theorem own_lo {w : World} {lo lo' : Nat} {e : TypeId} {q n : Nat} {v : Value} {xs : List Value} (h : w.ownsRow lo e q v n xs) (hl : lo' ≤ lo) : w.ownsRow lo' e q v n xs :=
  ⟨h.1, h.2.imp id fun ⟨g, cap, cur, e1, e2, e3⟩ => ⟨g, cap, cur, e1, Nat.le_trans hl e2, e3⟩⟩
/-- A row more. -/
theorem Lft.push {base lo2 : Nat} {Y Z : World} {v v' : Value} {Ls : List (List Nat)} {k : Nat} {hs : List Value} {xs : List Nat} {a : Option Addr} {c m : Nat} (hk : Ls.length = k) (hm : xs.length = m)
    (h1 : Y.ownsRow base 46 1 v k hs)
    (h2 : ∀ p (h : p < Ls.length), ∃ a c, hs[p]? = some (.slice a Ls[p].length c) ∧ (0 < Ls[p].length → Y.ownsRow base 2 1 (.slice a Ls[p].length c) Ls[p].length (intsN Ls[p])))
    (h3 : ∀ p q (hp : p < Ls.length) (hq : q < Ls.length), p ≠ q → 0 < Ls[p].length → 0 < Ls[q].length → hs[p]?.bind Value.ownBlock ≠ hs[q]?.bind Value.ownBlock)
    (hlow : ∀ p (h : p < Ls.length), 0 < Ls[p].length → ∀ b, hs[p]?.bind Value.ownBlock = some b → b < lo2)
    (hb : base ≤ lo2) (hn : 0 < m → Y.ownsRow lo2 2 1 (.slice a m c) m (intsN xs))
    (hO : Z.ownsRow base 46 1 v' (k + 1) (hs ++ [.slice a m c])) (hg : Y.grownBy Z v.ownBlock) : Lft base Z v' (Ls ++ [xs]) := by
  subst hk hm
  have hl : hs.length = Ls.length := by have := h1.1; omega
  have hat : ∀ p (h : p < Ls.length), (hs ++ [.slice a xs.length c])[p]? = hs[p]? := fun p h => List.getElem?_append_left (by omega)
  have hat' : (hs ++ [.slice a xs.length c])[Ls.length]? = some (.slice a xs.length c) := by rw [← hl, List.getElem?_append_right (Nat.le_refl _)]; simp
  have hnb : 0 < xs.length → ∃ b, (Value.slice a xs.length c).ownBlock = some b ∧ lo2 ≤ b := fun h0 => by
    obtain ⟨g, cap, e, hb, _⟩ := own_in (hn h0) h0
    exact ⟨g, by rw [e]; rfl, hb⟩
  refine ⟨hs ++ [.slice a xs.length c], by rw [List.length_append]; exact hO, fun p hp => ?_, fun p q hp hq hpq hp0 hq0 => ?_⟩
  · rw [List.length_append, List.length_singleton] at hp
    by_cases hpl : p < Ls.length
    · obtain ⟨a', c', e1, hr⟩ := h2 p hpl
      refine ⟨a', c', ?_, fun h0 => ?_⟩
      · rw [hat p hpl, e1, List.getElem_append_left hpl]
      · simp only [List.getElem_append_left hpl] at h0 ⊢
        exact own_keepO (hr h0) h1 (by decide) hg
    · obtain rfl : p = Ls.length := by omega
      refine ⟨a, c, ?_, fun h0 => ?_⟩
      · rw [hat']; simp
      · simp only [List.getElem_concat_length] at h0 ⊢
        exact own_keepO (own_lo (hn h0) hb) h1 (by decide) hg
  · rw [List.length_append, List.length_singleton] at hp hq
    by_cases hpl : p < Ls.length <;> by_cases hql : q < Ls.length
    · rw [hat p hpl, hat q hql]
      simp only [List.getElem_append_left hpl] at hp0
      simp only [List.getElem_append_left hql] at hq0
      exact h3 p q hpl hql hpq hp0 hq0
    · obtain rfl : q = Ls.length := by omega
      simp only [List.getElem_append_left hpl] at hp0
      simp only [List.getElem_concat_length] at hq0
      rw [hat p hpl, hat']
      intro e
      obtain ⟨b, hb1, hb2⟩ := hnb hq0
      have := hlow p hpl hp0 b (e.trans hb1)
      omega
    · obtain rfl : p = Ls.length := by omega
      simp only [List.getElem_append_left hql] at hq0
      simp only [List.getElem_concat_length] at hp0
      rw [hat q hql, hat']
      intro e
      obtain ⟨b, hb1, hb2⟩ := hnb hp0
      have := hlow q hql hq0 b (e.symm.trans hb1)
      omega
    · omega
/-- A row of another kind is written. -/
theorem Lft.putE {base lo : Nat} {w : World} {vl : Value} {Ls : List (List Nat)} {A n cap q : Nat} {e : TypeId} {xs : List Value} (h : Lft base w vl Ls) (hA : w.ownsRow lo e q (.slice (some ⟨A, 0, none⟩) n cap) n xs) (he : 46 ≠ e ∧ 2 ≠ e) (j : Nat) (u : Value) : Lft base (w.setCell ⟨A, j, none⟩ u) vl Ls := by
  obtain ⟨hs, h1, h2, h3⟩ := h
  exact ⟨hs, own_setO h1 hA he.1 j u, fun p hp => by obtain ⟨a, c, e, hr⟩ := h2 p hp; exact ⟨a, c, e, fun h0 => own_setO (hr h0) hA he.2 j u⟩, h3⟩
theorem Lft.low {base : Nat} {w : World} {Ls : List (List Nat)} {hs : List Value} (h2 : ∀ p (h : p < Ls.length), ∃ a c, hs[p]? = some (.slice a Ls[p].length c) ∧ (0 < Ls[p].length → w.ownsRow base 2 1 (.slice a Ls[p].length c) Ls[p].length (intsN Ls[p]))) :
    ∀ p (h : p < Ls.length), 0 < Ls[p].length → ∀ b, hs[p]?.bind Value.ownBlock = some b → b < w.heap.size := fun p h h0 b e => by
  obtain ⟨a, c, e1, hr⟩ := h2 p h
  rw [e1] at e
  exact ((hr h0).lt b e).2
/-- A search's cells, with any function. -/
abbrev srL0 (S : SrS) (vb vl vo vi vf : Value) : List Value :=
  [.slice S.a0 S.n0 S.c0, .slice S.a1 S.n1 S.c1, .slice S.a2 S.n2 S.c2, .slice (some ⟨S.Bb, 0, none⟩) S.n0 S.n0, .slice (some ⟨S.Be, 0, none⟩) S.n0 S.n0, .map (some S.M), .slice (some ⟨S.Wd, 0, none⟩) S.n1 S.n1, .bool S.back, .int .i64 S.start, vb, vl, vo, vi, vf]
/-- A search is made. -/
structure Beg1 (base : Nat) (S : SrS) (W : World) (t : Value) (wx : World) : Prop where
  out : ∃ P gb vf, t = .pointer (some ⟨P, 0, none⟩) ∧ wx.ownsRow base 131 14 (.slice (some ⟨P, 0, none⟩) 1 1) 1 (srL0 S (.slice (some ⟨gb, 0, none⟩) S.n1 S.n1) (.slice none 0 0) (.slice none 0 0) (.slice none 0 0) vf) ∧
    wx.ownsRow base 112 2 (.slice (some ⟨gb, 0, none⟩) S.n1 S.n1) S.n1 (repC ⟨noT, 0⟩ S.n1) ∧ Bel W wx
/-- A search whose rows are being copied. -/
structure BegL (base P gb : Nat) (S : SrS) (W : World) (Ls : List (List Nat)) (k : Nat) (wr : World) : Prop where
  out : ∃ vl, SrP base S P wr (.slice (some ⟨gb, 0, none⟩) S.n1 S.n1) vl (.slice none 0 0) (.slice none 0 0) ∧ wr.ownsRow base 112 2 (.slice (some ⟨gb, 0, none⟩) S.n1 S.n1) S.n1 (repC ⟨noT, 0⟩ S.n1) ∧ Lft base wr vl (Ls.take k) ∧ Bel W wr
theorem BegL.first {base P gb : Nat} {S : SrS} {W wx : World} {vf : Value} (Ls : List (List Nat)) (hP : wx.ownsRow base 131 14 (.slice (some ⟨P, 0, none⟩) 1 1) 1 (srL0 S (.slice (some ⟨gb, 0, none⟩) S.n1 S.n1) (.slice none 0 0) (.slice none 0 0) (.slice none 0 0) vf))
    (hB : wx.ownsRow base 112 2 (.slice (some ⟨gb, 0, none⟩) S.n1 S.n1) S.n1 (repC ⟨noT, 0⟩ S.n1)) (hb : Bel W wx) (hWb : W.heap.size ≤ base) : BegL base P gb S W Ls 0 (wx.setCell ⟨P, 13, none⟩ (.func (.func 83) #[.pointer (some ⟨P, 0, none⟩)] #[])) := by
  refine ⟨.slice none 0 0, (hP.stored 13 _).1, own_setO hB hP (by decide) 13 _, ⟨[], World.ownsRow_nil _ _ _ _, fun p h => absurd h (by simp), fun p q h => absurd h (by simp)⟩, ?_⟩
  have h := (World.ownsRow.lt hP P rfl).1
  exact bel_set hb (by show W.heap.size ≤ P; omega) _
/-- .. as its state. -/
theorem BegL.last {base P gb : Nat} {S : SrS} {W : World} {Ls : List (List Nat)} {k : Nat} {wr : World} (h : BegL base P gb S W Ls k wr) (hk : Ls.length ≤ k) : ∃ vl, St4 base P S vl wr (sig0 S.n1) ∧ Lft base wr vl Ls ∧ Bel W wr := by
  obtain ⟨vl, h1, h2, h3, h4⟩ := h.out
  rw [List.take_of_length_le hk] at h3
  refine ⟨vl, ⟨⟨_, _, _, [], h1, ?_, World.ownsRow_nil _ _ _ _, World.ownsRow_nil _ _ _ _, List.Perm.refl _, fun j hj => absurd hj (by simp)⟩⟩, h3, h4⟩
  have h2' : wr.ownsRow base 112 2 (.slice (some ⟨gb, 0, none⟩) S.n1 S.n1) (List.replicate S.n1 (⟨noT, 0⟩ : Cst)).length (repC ⟨noT, 0⟩ S.n1) := by rw [List.length_replicate]; exact h2
  exact h2'
end Go.Proofs.YtdlgehnoiaoneaaGreatDoor
