/-
  slices.Backward over a row of function values: its contract: for every loop body that keeps what lay there, the elements come from the last to the first.
-/
import Derived.Test.YtbebgfhblalghaaStyJ
import Derived.RangeFuncNested
import Derived.RangeFuncBound
import Derived.RangeFuncCalls
import Derived.RangeFuncLeaves
import Derived.RangeFuncBox
import Derived.Shelf.Abstract
import Derived.OwnWalkIn
import Derived.TacticsInMore
import Derived.LoopNIn
import Derived.LoopIn
namespace Go.Proofs.Ytbebgfhblalghaa
open Go.RowKit Go.Shelf

attribute [local go_sem] Oper.semAt_some

/-- The first k of m, from the last on. -/
def bwd (m k : Nat) (h : k ≤ m) : List (Fin m) := (List.range k).attach.map fun j => ⟨m - 1 - j.1, by have := List.mem_range.1 j.2; omega⟩
theorem bwd_zero (m : Nat) (h : 0 ≤ m) : bwd m 0 h = [] := rfl
theorem bwd_len (m k : Nat) (h : k ≤ m) : (bwd m k h).length = k := by simp [bwd]
theorem bwd_get {m k : Nat} (h : k ≤ m) {i : Nat} (hi : i < (bwd m k h).length) : ((bwd m k h)[i]).1 = m - 1 - i := by simp [bwd]
theorem bwd_succ {m k : Nat} (h : k + 1 ≤ m) : bwd m (k + 1) h = bwd m k (by omega) ++ [⟨m - 1 - k, by omega⟩] := by
  apply List.ext_getElem
  · simp [bwd]
  · intro i h1 h2
    apply Fin.ext
    rw [bwd_get h h1]
    rw [bwd_len] at h1
    by_cases e : i < k
    · rw [List.getElem_append_left (by rw [bwd_len]; exact e), bwd_get]
    · obtain rfl : i = k := by omega
      rw [List.getElem_append_right (by rw [bwd_len]; exact Nat.le_refl _)]
      simp

set_option maxRecDepth 100000 in
set_option maxHeartbeats 4000000 in
theorem bwd1_in (F : Fence) (n : Nat) (h7 : F.fn 215) (hro : F.round = none) (hn : 1 ≤ n) (l Bs n₀ b off m cap : Nat) (V : Nat → Value) (hm : m ≤ 1048576) (hb : b < n₀) (hs : Bs < n₀) (J Jx : List (Fin m) → World → Prop)
    (hY : ∀ pre (x : Fin m) W, J pre W → pre.length < m → YieldAt F (n - 1) Try.prog l #[.int .i64 (x.1 : Int), V x.1] W fun e W' =>
      (e = .returned (.bool true) ∧ J (pre ++ [x]) W' ∧ Below n₀ W W') ∨ (e = .returned (.bool false) ∧ Jx (pre ++ [x]) W'))
    (W : World) (hBs : W.cell? ⟨Bs, 0, none⟩ = some (.slice (some ⟨b, off, none⟩) m cap)) (hc : ∀ j, j < m → W.cell? ⟨b, off + j, none⟩ = some (V j)) (h0 : J [] W) :
    CallsIn F n Try.prog 215 #[.func (.yield l) #[] #[], .pointer (some ⟨Bs, 0, none⟩)] W fun e W' => (∃ v, e = .returned v) ∧
      ((∃ ys, ys = bwd m m (Nat.le_refl _) ∧ J ys W') ∨ (∃ pre, (∃ k, ∃ h : k ≤ m, pre = bwd m k h) ∧ Jx pre W')) := by
  refine callsIn_of_wp Try.func215 rfl h7 ?_ hro
  simp only [Try.ntmps215, List.size_toArray, List.length_cons, List.length_nil, Nat.reduceAdd, Nat.reduceSub, Array.replicate_succ, Array.replicate_zero, List.push_toArray, List.append_toArray, List.nil_append, List.cons_append]
  gi_wp2
  gi_loopw [3] (fun i wr => ∃ k : Nat, ∃ h : k ≤ m, i = .int .i64 ((m : Int) - 1 - k) ∧ J (bwd m k h) wr ∧ Below n₀ W wr)
    (fun i _ => (intOf i + 1).toNat)
  case atStart => exact ⟨0, Nat.zero_le _, by simp, h0, Below.refl _ _⟩
  case round =>
    obtain ⟨k, hk, rfl, hJs, hnx⟩ := hrel
    by_cases hlt : k < m
    · obtain ⟨q, hq⟩ : ∃ q : Nat, q + k + 1 = m := ⟨m - 1 - k, by omega⟩
      have hqi : (m : Int) - 1 - (k : Int) = (q : Int) := by omega
      obtain ⟨x, hx⟩ : ∃ x : Fin m, x.1 = q := ⟨⟨q, by omega⟩, rfl⟩
      obtain ⟨fn, tmps, assign, body, hy, hR⟩ := hY _ x wr hJs (by rw [bwd_len]; exact hlt)
      rw [hx] at hy
      have hcx : wr.cell? ⟨b, off + q, none⟩ = some (V q) := (hnx.cell (p := ⟨b, off + q, none⟩) hb).trans (hc q (by omega))
      have hcb : wr.cell? ⟨Bs, 0, none⟩ = some (.slice (some ⟨b, off, none⟩) m cap) := (hnx.cell (p := ⟨Bs, 0, none⟩) hs).trans hBs
      have hlt' : (q : Int) < (m : Int) := by omega
      have hq0 : ¬ (q : Int) < 0 := by omega
      have hk1 : k + 1 ≤ m := hlt
      have HB : Hid (bwd m (k + 1) hk1 = bwd m k hk ++ [x]) := by
        rw [bwd_succ (by omega)]
        exact (by congr 2; apply Fin.ext; rw [hx]; show m - 1 - k = q; omega : bwd m k (by omega) ++ [(⟨m - 1 - k, by omega⟩ : Fin m)] = bwd m k hk ++ [x])
      have HK : Hid (q + k + 1 = m) := hq
      rw [hqi]
      clear hq hqi hx
      gi_wp2
      refine hR.mono ?_
      rintro e W3 (⟨rfl, hJ3, hk3⟩ | ⟨rfl, hJx3⟩)
      · gi_wp2
        go_roundw
        case rel => exact ⟨k + 1, hk1, by have := HK.out; congr 1; omega, by rw [HB.out]; exact hJ3, hnx.trans hk3⟩
        case measure => simp [intOf]
      · gi_wp2
        refine bodyPost_ret (results_none rfl _ _ _) rfl ?_
        exact ⟨⟨_, rfl⟩, .inr ⟨_, ⟨k + 1, hk1, HB.out.symm⟩, hJx3⟩⟩
    · obtain rfl : k = m := by omega
      have hz : (k : Int) - 1 - (k : Int) = -1 := by omega
      rw [hz]
      gi_wp2
      go_end0
      exact ⟨⟨_, rfl⟩, .inl ⟨_, rfl, hJs⟩⟩

set_option maxRecDepth 100000 in
set_option maxHeartbeats 1000000 in
theorem bwd1_nil (F : Fence) (n : Nat) (h7 : F.fn 215) (hro : F.round = none) (l Bs cap : Nat) (a : Option Addr) {m : Nat} (J : List (Fin m) → World → Prop) (W : World) (hBs : W.cell? ⟨Bs, 0, none⟩ = some (.slice a 0 cap)) (h0 : J [] W) :
    CallsIn F n Try.prog 215 #[.func (.yield l) #[] #[], .pointer (some ⟨Bs, 0, none⟩)] W fun e W' => (∃ v, e = .returned v) ∧ J [] W' := by
  refine callsIn_of_wp Try.func215 rfl h7 ?_ hro
  simp only [Try.ntmps215, List.size_toArray, List.length_cons, List.length_nil, Nat.reduceAdd, Nat.reduceSub, Array.replicate_succ, Array.replicate_zero, List.push_toArray, List.append_toArray, List.nil_append, List.cons_append]
  gi_wp2
  gi_loopw [3] (fun i wr => i = .int .i64 (-1) ∧ J [] wr) (fun _ _ => 0)
  case atStart => exact ⟨rfl, h0⟩
  case round =>
    obtain ⟨rfl, hJs⟩ := hrel
    gi_wp2
    go_end0
    exact ⟨⟨_, rfl⟩, hJs⟩

/-- What slices.Backward hands back tells all from the last to the first, or the first of them. -/
theorem bwd_stops (F : Fence) (n : Nat) (h7 : F.fn 215) (hro : F.round = none) (hn : 1 ≤ n) (Bs n₀ : Nat) (a : Option Addr) (m cap : Nat) (V : Nat → Value) (hm : m ≤ 1048576) (w : World) (hs : Bs < n₀) (hn₀ : n₀ ≤ w.heap.size)
    (hc : w.cell? ⟨Bs, 0, none⟩ = some (.slice a m cap)) (hV : m = 0 ∨ ∃ b off, a = some ⟨b, off, none⟩ ∧ b < n₀ ∧ ∀ j, j < m → w.cell? ⟨b, off + j, none⟩ = some (V j)) :
    SeqStopsK F n Try.prog 215 #[.pointer (some ⟨Bs, 0, none⟩)] (fun x : Fin m => #[.int .i64 (x.1 : Int), V x.1]) (Below n₀) (fun ys => ys = bwd m m (Nat.le_refl _)) (fun pre => ∃ k, ∃ h : k ≤ m, pre = bwd m k h) m w := fun l J Jx W hW _ _ hY h0 => by
  have hW' := hW.mono hn₀
  have hc' := (hW'.cell (p := ⟨Bs, 0, none⟩) hs).trans hc
  rcases hV with rfl | ⟨b, off, rfl, hb, hcs⟩
  · exact (bwd1_nil F n h7 hro l Bs cap a J W hc' h0).mono fun e W' ⟨he, hj⟩ => ⟨he, .inl ⟨_, rfl, hj⟩⟩
  · exact (bwd1_in F n h7 hro hn l Bs n₀ b off m cap V hm hb hs J Jx hY W hc' (fun j hj => (hW'.cell (p := ⟨b, off + j, none⟩) hb).trans (hcs j hj)) h0).mono fun e W' h => h
theorem backward_any (a : Option Addr) (m cap : Nat) (w : World) :
    Calls Try.prog 176 #[.slice a m cap] w fun e w' => e = .returned (.func (.func 215) #[] #[.pointer (some ⟨w.heap.size, 0, none⟩)]) ∧ w' = w.alloc (.cells #[.slice a m cap] 248) := by
  go_enter Try.func176, Try.ntmps176
  go_wp2
  go_ret
  exact ⟨rfl, rfl⟩
end Go.Proofs.Ytbebgfhblalghaa
