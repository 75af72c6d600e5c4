/-
  Whether a list of tiles has a tile: the law's own function.
-/
import Derived.Test.YtkknbapcbcialaaTlsM
namespace Go.Proofs.Ytkknbapcbcialaa
open Go.RowKit

theorem tlEq (z x y z' x' y' : Int) (w : World) : Sem.run Try.prog (binOp .eql 42 (.agg #[.int .i64 z, .int .i64 x, .int .i64 y]) (.agg #[.int .i64 z', .int .i64 x', .int .i64 y'])) w = .ok (.bool (decide (z = z') && (decide (x = x') && decide (y = y')))) w := by
  by_cases h1 : z = z' <;> by_cases h2 : x = x' <;> by_cases h3 : y = y' <;> go_simp

theorem hasT_ref {L : List TileD} {z x y : Int} (h : ∀ j (hj : j < L.length), (decide (L[j].z = z) && (decide (L[j].x = x) && decide (L[j].y = y))) = false) : hasT L z x y = false := by
  unfold hasT
  rw [List.any_eq_false]
  intro t ht
  obtain ⟨j, hj, rfl⟩ := List.getElem_of_mem ht
  rw [h j hj]; exact Bool.false_ne_true
theorem hasT_at {L : List TileD} {z x y : Int} {j : Nat} (hj : j < L.length) (h : (decide (L[j].z = z) && (decide (L[j].x = x) && decide (L[j].y = y))) = true) : hasT L z x y = true := by
  unfold hasT
  rw [List.any_eq_true]
  exact ⟨_, List.getElem_mem hj, h⟩

set_option maxRecDepth 100000 in
set_option maxHeartbeats 1000000 in
theorem hasTile_any (a : Option Addr) (c : Nat) (L : List TileD) (bs : List Nat) (z x y : Int) (w : World) (h : TileL w a L bs) (hl : L.length ≤ 400) (m : Nat) (hm : m = L.length) :
    Calls Try.prog 18 #[.slice a m c, til z x y] w fun e w' => e = .returned (.bool (hasT L z x y)) ∧ Bel w w' := by
  obtain ⟨R, HR⟩ : ∃ R, Hid (hasT L z x y = R) := ⟨_, (rfl : hasT L z x y = _)⟩
  rw [HR.out]
  have Hm : Hid (m = L.length) := hm
  have hml : m ≤ 400 := by omega
  obtain ⟨W, HW⟩ : ∃ W, Hid (W = w.alloc (.cells #[.int .i64 z, .int .i64 x, .int .i64 y] 42)) := ⟨_, (rfl : w.alloc (.cells #[.int .i64 z, .int .i64 x, .int .i64 y] 42) = _)⟩
  have hW : Bel w W := by rw [HW.out]; exact bel_alloc (Bel.refl _) _
  have Z0 : Blk W w.heap.size [.int .i64 z, .int .i64 x, .int .i64 y] := by rw [HW.out]; exact Blk.new w [.int .i64 z, .int .i64 x, .int .i64 y] _
  have h := Sl.bel tileE h hW
  clear hm hl
  go_enter Try.func18, Try.ntmps18
  go_wp2
  rw [← HW.out]
  go_loopw [5] (fun i wr => ∃ k : Nat, k ≤ m ∧ i = .int .i64 k ∧ (∀ j (hj : j < L.length), j < k → (decide (L[j].z = z) && (decide (L[j].x = x) && decide (L[j].y = y))) = false) ∧ Bel W wr) (fun i _ => m - (intOf i).toNat)
  case atStart => exact ⟨0, Nat.zero_le _, rfl, (fun j _ hj => by omega), Bel.refl _⟩
  case round =>
    obtain ⟨k, hk, rfl, hno, hBr⟩ := hrel
    have HNo : Hid _ := hno
    clear hno
    by_cases hlt : k < m
    · rcases Sl.bel tileE h hBr with ⟨h1, _⟩ | ⟨b, off, f, rfl, h2, _, hc⟩
      · exfalso; have := Hm.out; rw [h1] at this; simp at this; omega
      have hkL : k < L.length := by have := Hm.out; omega
      obtain ⟨_, _, _, _, cz, cx, cy⟩ := hc k hkL
      clear hc
      have Zr := Z0.bel hBr
      have c0 := Zr.cell 0 (by simp)
      have c1 := Zr.cell 1 (by simp)
      have c2 := Zr.cell 2 (by simp)
      simp only [List.getElem_cons_zero, List.getElem_cons_succ] at c0 c1 c2
      obtain ⟨tz, Htz⟩ : ∃ x, Hid (L[k].z = x) := ⟨_, (rfl : L[k].z = _)⟩
      obtain ⟨tx, Htx⟩ : ∃ x, Hid (L[k].x = x) := ⟨_, (rfl : L[k].x = _)⟩
      obtain ⟨ty, Hty⟩ : ∃ x, Hid (L[k].y = x) := ⟨_, (rfl : L[k].y = _)⟩
      rw [Htz.out] at cz; rw [Htx.out] at cx; rw [Hty.out] at cy
      have heq := fun w => tlEq tz tx ty z x y w
      obtain ⟨t, Ht⟩ : ∃ t, Hid ((decide (tz = z) && (decide (tx = x) && decide (ty = y))) = t) := ⟨_, (rfl : (decide (tz = z) && (decide (tx = x) && decide (ty = y))) = _)⟩
      rw [Ht.out] at heq
      have hlt' : (k : Int) < (m : Int) := by omega
      cases t
      · go_wp2
        go_quiet (fail)
        have gq : Bel W (wr.drewN nq) := bel_drewN hBr _
        go_wp2
        go_roundw
        case rel =>
          refine ⟨k + 1, by omega, by go_num, fun j hj hjk => ?_, gq⟩
          rcases Nat.lt_succ_iff_lt_or_eq.1 hjk with hh | rfl
          · exact HNo.out j hj hh
          · rw [Htz.out, Htx.out, Hty.out]; exact Ht.out
        case measure => simp [intOf]; omega
      · have HE : Hid (R = true) := by rw [← HR.out]; exact hasT_at hkL (by rw [Htz.out, Htx.out, Hty.out]; exact Ht.out)
        go_wp2
        go_quiet (fail)
        have gq : Bel W (wr.drewN nq) := bel_drewN hBr _
        go_wp2
        go_ret
        exact ⟨ret_bl HE.out.symm, bel_step hW gq⟩
    · have HE : Hid (R = false) := by rw [← HR.out]; exact hasT_ref fun j hj => HNo.out j hj (by have := Hm.out; omega)
      have hge : ¬ (k : Int) < (m : Int) := by omega
      go_wp2
      go_ret
      exact ⟨ret_bl HE.out.symm, bel_step hW hBr⟩
end Go.Proofs.Ytkknbapcbcialaa
