/-
  What the model draws for edits: two texts, neither long.
-/
import Derived.Test.YtonedkibbdbgjaaEdtI
import Derived.Test.YtonedkibbdbgjaaCurC
import Derived.Deep.QuietTactic
namespace Go.Proofs.Ytonedkibbdbgjaa
open Go.RowKit

theorem int_eq {a b : Int} (h : a = b) : Value.int .i64 a = .int .i64 b := by rw [h]
theorem fold_any (l : List Int) : ∀ r : ByteArray, (l.foldl (fun r n => r.push (UInt8.ofNat n.toNat)) r).size = r.size + l.length := by
  induction l with
  | nil => intro r; rfl
  | cons x l ih => intro r; rw [List.foldl_cons, ih, ByteArray.size_push]; simp only [List.length_cons]; omega
theorem fold_zero (m : Nat) : ((List.replicate m (0 : Int)).foldl (fun r n => r.push (UInt8.ofNat n.toNat)) ByteArray.empty).size = m := by
  rw [fold_any, List.length_replicate, ByteArray.size_empty, Nat.zero_add]
theorem addr_j (b j : Nat) : (⟨b, 0, none⟩ : Addr).add j = ⟨b, j, none⟩ := by unfold Addr.add; split <;> simp_all
theorem conv_zero (w : World) (m : Nat) : ∃ s : ByteArray, s.size = m ∧ (convert 29 9 (.slice (some ⟨w.heap.size, 0, none⟩) m m)).run Try.prog (w.alloc (.cells (madeCells #[.int .u8 0] m) 5)) = .ok (.string s) (w.alloc (.cells (madeCells #[.int .u8 0] m) 5)) := by
  refine ⟨(List.replicate m (0 : Int)).foldl (fun r n => r.push (UInt8.ofNat n.toNat)) ByteArray.empty, fold_zero m, ?_⟩
  rw [run_convert_bytes_string _ _ _ 5 _ _ _ Try.underlying29 Try.underlying5 Try.underlying9]
  refine run_bytesToString _ _ _ _ _ ?_
  have hl := run_loadCells (P := Try.prog) (w := w.alloc (.cells (madeCells #[.int .u8 0] m) 5)) ⟨w.heap.size, 0, none⟩ m (fun _ => .int .u8 0) (fun j hj => by rw [addr_j]; simp [madeCells, hj, Nat.mod_one])
  rw [hl, List.map_const', List.length_range, List.map_replicate]
theorem one_x : (ByteArray.mk #[120]).size = 1 := rfl
theorem one_y : (ByteArray.mk #[121]).size = 1 := rfl
theorem infoU8 : (Try.prog.info? 5).map (fun i => (i.zero, i.size, i.bytes)) = some (some (.int .u8 0), 1, 1) := by kernel_rfl
set_option maxRecDepth 100000 in
set_option maxHeartbeats 4000000 in
theorem drawEdits_any (a : Option Addr) (n c : Nat) (w : World) (hS : Bts w a n) (hn : n ≤ 1048576) :
    Calls Try.prog 14 #[.slice a n c] w fun e w' => ∃ A B : ByteArray, e = .returned (.tuple #[.string A, .string B]) ∧ A.size ≤ 60 ∧ B.size ≤ 60 ∧ Bel w w' := by
  go_enter Try.func14, Try.ntmps14
  go_wp2_with fail
  refine (l1New_any a n c w hS hn).mono ?_
  rintro e w1 ⟨rfl, hb1, k1⟩
  obtain ⟨W2, HW2⟩ : ∃ W, Hid (W = w1.alloc (.cells #[.string ⟨#[]⟩, .string ⟨#[97]⟩, .string ⟨#[109, 105, 108, 108]⟩, .string ⟨#[108, 97, 110, 101]⟩, .string ⟨#[115, 116, 97, 116, 105, 111, 110]⟩, .string ⟨#[115, 116, 114, 101, 101, 116]⟩, .string ⟨#[110, 111, 114, 116, 104]⟩] 9)) := ⟨_, (rfl : w1.alloc _ = _)⟩
  have hW2 : Bel w1 W2 := by rw [HW2.out]; exact bel_alloc (Bel.refl _) _
  have HC2 : Hid (∀ k : Nat, k < 7 → ∃ s : ByteArray, s.size ≤ 7 ∧ W2.cell? ⟨w1.heap.size, k, none⟩ = some (.string s)) := by
    intro k hk
    rw [HW2.out]
    match k, hk with
    | 0, _ => exact ⟨⟨#[]⟩, by decide, by simp⟩
    | 1, _ => exact ⟨⟨#[97]⟩, by decide, by simp⟩
    | 2, _ => exact ⟨⟨#[109, 105, 108, 108]⟩, by decide, by simp⟩
    | 3, _ => exact ⟨⟨#[108, 97, 110, 101]⟩, by decide, by simp⟩
    | 4, _ => exact ⟨⟨#[115, 116, 97, 116, 105, 111, 110]⟩, by decide, by simp⟩
    | 5, _ => exact ⟨⟨#[115, 116, 114, 101, 101, 116]⟩, by decide, by simp⟩
    | 6, _ => exact ⟨⟨#[110, 111, 114, 116, 104]⟩, by decide, by simp⟩
  have hlt2 : w1.heap.size < W2.heap.size := by rw [HW2.out]; simp
  have B2 := bel_step hb1 hW2
  have k2 := k1.bel hW2
  have hk1 := k1.lt
  go_wp2_with fail
  rw [← HW2.out]
  refine (below_any _ a n c w W2 B2 (Nat.le_refl _) k2 hS hn 7 (by decide) (by decide)).mono ?_
  rintro e w3 ⟨x, rfl, hx, d3⟩
  obtain ⟨k, rfl⟩ : ∃ k : Nat, x = k := ⟨x.toNat, by omega⟩
  obtain ⟨s, hs, hc⟩ := HC2.out k (by omega)
  have hc3 : w3.cell? ⟨w1.heap.size, k, none⟩ = some (.string s) := by rw [d3.o.cell _ _ hlt2 (by omega)]; exact hc
  have hx7 : (k : Int) < 7 := hx.2
  have D3 : Hid (Drawn w W2 w.heap.size a n c w3) := d3
  clear hc hx d3 HC2 k2 hW2 HW2
  go_wp2_with fail
  refine (below_any _ a n c w _ D3.out.b (Nat.le_refl _) D3.out.k hS hn 4 (by decide) (by decide)).mono ?_
  rintro e w4 ⟨x, rfl, hx, d4⟩
  obtain ⟨i, rfl⟩ : ∃ k : Nat, x = k := ⟨x.toNat, by omega⟩
  have hi4 : i < 4 := by omega
  have D4 : Hid (Bel w w4 ∧ Cur w4 w.heap.size a n c) := ⟨d4.b, d4.k⟩
  clear hx d4
  go_wp2_with fail
  go_loopw [6, 7] (fun b i wr => ∃ (k : Nat) (B : ByteArray), b = .string B ∧ i = .int .i64 k ∧ B.size + k ≤ 20 ∧ Bel w wr ∧ Cur wr w.heap.size a n c) (fun _ i _ => (intOf i).toNat)
  case atStart => exact ⟨i, s, rfl, rfl, by omega, D4.out.1, D4.out.2⟩
  case round =>
    obtain ⟨k, B, rfl, rfl, hsz, hBr, hCr⟩ := hrel
    have HB : Hid (Bel w wr ∧ Cur wr w.heap.size a n c) := ⟨hBr, hCr⟩
    clear hBr hCr D3 D4 hc3 hx7
    by_cases hk : 0 < k
    · have hk' : (0 : Int) < (k : Int) := by omega
      have hBm : (B.size : Int) + 1 ≤ 9223372036854775807 := by omega
      go_wp2_with fail
      refine (below_any _ a n c w _ HB.out.1 (Nat.le_refl _) HB.out.2 hS hn ((B.size : Int) + 1) (by omega) (by omega)).mono ?_
      rintro e v1 ⟨x, rfl, hx, e1⟩
      obtain ⟨p, rfl⟩ : ∃ k : Nat, x = k := ⟨x.toNat, by omega⟩
      have hp : (p : Int) ≤ (B.size : Int) := by omega
      have E1 : Hid (Bel w v1 ∧ Cur v1 w.heap.size a n c) := ⟨e1.b, e1.k⟩
      clear hx e1 HB
      go_wp2_with fail
      refine (below_any _ a n c w _ E1.out.1 (Nat.le_refl _) E1.out.2 hS hn 3 (by decide) (by decide)).mono ?_
      rintro e v2 ⟨x, rfl, hx, e2⟩
      have E2 : Hid (Bel w v2 ∧ Cur v2 w.heap.size a n c) := ⟨e2.b, e2.k⟩
      clear e2 E1
      rcases (show x = 0 ∨ x = 1 ∨ x = 2 by omega) with rfl | rfl | rfl
      · clear hx
        go_wp2_with fail
        go_quiet (fail)
        go_wp2_with fail
        go_roundw
        case rel => exact ⟨k - 1, _, rfl, int_eq (by omega), by simp only [ByteArray.size_append, ByteArray.size_extract, one_x]; omega, bel_drewN E2.out.1 _, E2.out.2.bel (bel_drewN (Bel.refl _) _)⟩
        case measure => simp [intOf]; omega
      · clear hx
        by_cases hpl : (p : Int) < (B.size : Int)
        · have hpl1 : (p : Int) + 1 ≤ (B.size : Int) := by omega
          go_wp2_with fail
          go_quiet (fail)
          go_wp2_with fail
          go_roundw
          case rel => exact ⟨k - 1, _, rfl, int_eq (by omega), by simp only [ByteArray.size_append, ByteArray.size_extract]; omega, bel_drewN E2.out.1 _, E2.out.2.bel (bel_drewN (Bel.refl _) _)⟩
          case measure => simp [intOf]; omega
        · obtain rfl : p = B.size := by omega
          clear hp hpl
          have hpn : ¬ (B.size : Int) < (B.size : Int) := by omega
          go_wp2_with fail
          go_roundw
          case rel => exact ⟨k - 1, _, rfl, int_eq (by omega), by omega, E2.out.1, E2.out.2⟩
          case measure => simp [intOf]; omega
      · clear hx
        by_cases hpl : (p : Int) < (B.size : Int)
        · have hpl1 : (p : Int) + 1 ≤ (B.size : Int) := by omega
          go_wp2_with fail
          go_quiet (fail)
          go_wp2_with fail
          go_roundw
          case rel => exact ⟨k - 1, _, rfl, int_eq (by omega), by simp only [ByteArray.size_append, ByteArray.size_extract, one_y]; omega, bel_drewN E2.out.1 _, E2.out.2.bel (bel_drewN (Bel.refl _) _)⟩
          case measure => simp [intOf]; omega
        · obtain rfl : p = B.size := by omega
          clear hp hpl
          have hpn : ¬ (B.size : Int) < (B.size : Int) := by omega
          go_wp2_with fail
          go_roundw
          case rel => exact ⟨k - 1, _, rfl, int_eq (by omega), by omega, E2.out.1, E2.out.2⟩
          case measure => simp [intOf]; omega
    · have hk' : ¬ (0 : Int) < (k : Int) := by omega
      go_wp2_with fail
      refine (once_any _ a n c w _ HB.out.1 (Nat.le_refl _) HB.out.2 hS hn 30 (by decide) (by decide)).mono ?_
      rintro e v1 ⟨t, rfl, e1⟩
      have E1 : Hid (Bel w v1 ∧ Cur v1 w.heap.size a n c) := ⟨e1.b, e1.k⟩
      clear e1 HB
      cases t
      · go_wp2_with fail
        exact bodyPost_ret (v := .tuple #[.string s, .string B]) (by simp [results, Try.results14, go_sem]) rfl ⟨s, B, rfl, by omega, by omega, E1.out.1⟩
      · go_wp2_with fail
        refine (below_any _ a n c w _ E1.out.1 (Nat.le_refl _) E1.out.2 hS hn 2 (by decide) (by decide)).mono ?_
        rintro e v2 ⟨x, rfl, hx, e2⟩
        have E2 : Hid (Bel w v2 ∧ Cur v2 w.heap.size a n c) := ⟨e2.b, e2.k⟩
        clear e2 E1
        obtain ⟨m, hm, hm60⟩ : ∃ m : Nat, (40 : Int) + x = m ∧ m ≤ 41 := ⟨(40 + x).toNat, by omega, by omega⟩
        have hmk : ∀ w : World, (Instr.makeSlice 29 (.int .i64 m) (.int .i64 m)).run Try.prog w = .ok (.slice (some ⟨w.heap.size, 0, none⟩) m m) (w.alloc (.cells (madeCells #[.int .u8 0] m) 5)) := fun w => by
          obtain ⟨i0, hi, hz0, hz1, hz2⟩ := info_parts infoU8
          have := run_make (P := Try.prog) w 29 5 i0 (.int .u8 0) Try.underlying29 hi hz0 .i64 .i64 m m (by omega) (by omega) (by rw [hz2]; omega) (by omega)
          rw [hz1, Nat.mul_one] at this
          exact this
        have hcv : ∀ w : World, ∃ s : ByteArray, s.size = m ∧ (convert 29 9 (.slice (some ⟨w.heap.size, 0, none⟩) m m)).run Try.prog (w.alloc (.cells (madeCells #[.int .u8 0] m) 5)) = .ok (.string s) (w.alloc (.cells (madeCells #[.int .u8 0] m) 5)) := fun w => by
          exact conv_zero w m
        obtain ⟨z, hz, hcz⟩ := hcv v2
        have hcx := hmk v2
        go_wp2_with fail
        exact bodyPost_ret (v := .tuple #[.string z, .string z]) (by simp [results, Try.results14, go_sem]) rfl ⟨z, z, rfl, by omega, by omega, bel_alloc E2.out.1 _⟩
end Go.Proofs.Ytonedkibbdbgjaa
