/-
  What the model draws for Root and Distance: contracts that tell no more than the bounds.
-/
import Derived.Test.YtelaljcglhmmnaaDrawC
import Derived.Test.YtelaljcglhmmnaaOpen
namespace Go.Proofs.Ytelaljcglhmmnaa
open Go.RowKit

theorem big_any (a : Option Addr) (n c : Nat) (w : World) :
    Calls Try.prog 7 #[.slice a n c] w fun e w' => e = .returned (.bool (decide (1048576 < (n : Int)))) ∧ w' = w := by
  go_enter Try.func7, Try.ntmps7
  go_wp2
  go_ret
  exact ⟨rfl, rfl⟩

theorem absL_any (n : Int) (w : World) (h0 : -20000000 ≤ n) (h1 : n ≤ 20000000) :
    Calls Try.prog 13 #[.int .i64 n] w fun e w' => e = .returned (.int .i64 (max n (-n))) ∧ w' = w := by
  by_cases h : n < 0
  · have e : max n (-n) = -n := by omega
    rw [e]
    clear e
    go_enter Try.func13, Try.ntmps13
    go_wp2
    go_ret
    exact ⟨rfl, rfl⟩
  · have e : max n (-n) = n := by omega
    rw [e]
    clear e
    go_enter Try.func13, Try.ntmps13
    go_wp2
    go_ret
    exact ⟨rfl, rfl⟩

theorem i64_wrap (n : Int) : I64 (wrap64 n) := by unfold I64 wrap64; omega

set_option maxRecDepth 100000 in
set_option maxHeartbeats 4000000 in
theorem drawRoot_any (a : Option Addr) (n c : Nat) (w : World) (hS : Bts w a n) (hn : n ≤ 1048576) :
    Calls Try.prog 8 #[.slice a n c] w fun e w' => ∃ m : Int, e = .returned (.int .i64 m) ∧ I64 m ∧ Bel w w' := by
  go_enter Try.func8, Try.ntmps8
  go_wp2_with fail
  refine (l1New_any a n c w hS hn).mono ?_
  rintro e w1 ⟨rfl, hb1, k1⟩
  go_wp2_with fail
  refine (below_any _ a n c w _ hb1 (Nat.le_refl _) k1 hS hn 4294967296 (by decide) (by decide)).mono ?_
  rintro e w2 ⟨x, rfl, ⟨x0, x1⟩, d2⟩
  go_wp2_with fail
  refine (below_any _ a n c w _ d2.b (Nat.le_refl _) d2.k hS hn 6 (by decide) (by decide)).mono ?_
  rintro e w3 ⟨t, rfl, ⟨t0, t1⟩, d3⟩
  have hb3 := d3.b
  have D3 : Hid (Drawn w w2 w.heap.size a n c w3) := d3
  clear d2 d3 hb1 k1
  rcases (show t = 0 ∨ t = 1 ∨ t = 2 ∨ t = 3 ∨ 3 < t by omega) with rfl | rfl | rfl | rfl | ht
  · go_wp2
    go_ret
    exact ⟨_, rfl, i64_wrap _, hb3⟩
  · go_wp2
    go_ret
    exact ⟨_, rfl, i64_wrap _, hb3⟩
  · go_wp2_with fail
    refine (below_any _ a n c w _ hb3 (Nat.le_refl _) D3.out.k hS hn 30 (by decide) (by decide)).mono ?_
    rintro e w4 ⟨r, rfl, ⟨r0, r1⟩, d4⟩
    have hb4 := d4.b
    clear d4
    go_wp2
    go_ret
    exact ⟨_, rfl, ⟨by omega, by omega⟩, hb4⟩
  · have hA : Bel w3 (w3.alloc (.cells #[.int .i64 9223372036854775807, .int .i64 9223372030926249001, .int .i64 9223372030926249000] 2)) := bel_alloc (Bel.refl _) _
    have hl : w3.heap.size < (w3.alloc (.cells #[.int .i64 9223372036854775807, .int .i64 9223372030926249001, .int .i64 9223372030926249000] 2)).heap.size := by simp
    have hne : w3.heap.size ≠ w.heap.size := by have := D3.out.k.lt; omega
    have l0 : (w3.alloc (.cells #[.int .i64 9223372036854775807, .int .i64 9223372030926249001, .int .i64 9223372030926249000] 2)).cell? ⟨w3.heap.size, 0, none⟩ = some (.int .i64 9223372036854775807) := by simp [go_sem]
    have l1 : (w3.alloc (.cells #[.int .i64 9223372036854775807, .int .i64 9223372030926249001, .int .i64 9223372030926249000] 2)).cell? ⟨w3.heap.size, 1, none⟩ = some (.int .i64 9223372030926249001) := by simp [go_sem]
    have l2 : (w3.alloc (.cells #[.int .i64 9223372036854775807, .int .i64 9223372030926249001, .int .i64 9223372030926249000] 2)).cell? ⟨w3.heap.size, 2, none⟩ = some (.int .i64 9223372030926249000) := by simp [go_sem]
    go_wp2_with fail
    refine (below_any _ a n c w _ (bel_step hb3 hA) (Nat.le_refl _) (D3.out.k.bel hA) hS hn 3 (by decide) (by decide)).mono ?_
    rintro e w4 ⟨r, rfl, ⟨r0, r1⟩, d4⟩
    have l0 := (d4.o.cell w3.heap.size 0 hl hne).trans l0
    have l1 := (d4.o.cell w3.heap.size 1 hl hne).trans l1
    have l2 := (d4.o.cell w3.heap.size 2 hl hne).trans l2
    have hb4 := d4.b
    clear d4 hA hl
    rcases (show r = 0 ∨ r = 1 ∨ r = 2 by omega) with rfl | rfl | rfl
    all_goals
      go_wp2
      go_ret
      exact ⟨_, rfl, ⟨by omega, by omega⟩, hb4⟩
  · have h0 : ¬ t = 0 := by omega
    have h1 : ¬ t = 1 := by omega
    have h2 : ¬ t = 2 := by omega
    have h3 : ¬ t = 3 := by omega
    go_wp2
    go_ret
    exact ⟨_, rfl, ⟨by omega, by omega⟩, hb3⟩

set_option maxRecDepth 100000 in
set_option maxHeartbeats 4000000 in
theorem drawDistance_any (a : Option Addr) (n c : Nat) (w : World) (hS : Bts w a n) (hn : n ≤ 1048576) :
    Calls Try.prog 10 #[.slice a n c] w fun e w' => ∃ x0 y0 x1 y1 : Int, e = .returned (.tuple #[pt x0 y0, pt x1 y1]) ∧ Bel w w' := by
  have hW : Bel w ((w.alloc (.cells #[.int .i64 0, .int .i64 0] 27)).alloc (.cells #[.int .i64 0, .int .i64 0] 27)) := bel_alloc (bel_alloc (Bel.refl _) _) _
  have hWs : ((w.alloc (.cells #[.int .i64 0, .int .i64 0] 27)).alloc (.cells #[.int .i64 0, .int .i64 0] 27)).heap.size = w.heap.size + 1 + 1 := by simp
  have z0 : ((w.alloc (.cells #[.int .i64 0, .int .i64 0] 27)).alloc (.cells #[.int .i64 0, .int .i64 0] 27)).cell? ⟨w.heap.size, 0, none⟩ = some (.int .i64 0) := by simp [go_sem]
  have z1 : ((w.alloc (.cells #[.int .i64 0, .int .i64 0] 27)).alloc (.cells #[.int .i64 0, .int .i64 0] 27)).cell? ⟨w.heap.size, 1, none⟩ = some (.int .i64 0) := by simp [go_sem]
  have z2 : ((w.alloc (.cells #[.int .i64 0, .int .i64 0] 27)).alloc (.cells #[.int .i64 0, .int .i64 0] 27)).cell? ⟨w.heap.size + 1, 0, none⟩ = some (.int .i64 0) := by simp [go_sem]
  have z3 : ((w.alloc (.cells #[.int .i64 0, .int .i64 0] 27)).alloc (.cells #[.int .i64 0, .int .i64 0] 27)).cell? ⟨w.heap.size + 1, 1, none⟩ = some (.int .i64 0) := by simp [go_sem]
  have zf : ∀ j, ((w.alloc (.cells #[.int .i64 0, .int .i64 0] 27)).alloc (.cells #[.int .i64 0, .int .i64 0] 27)).frozen? ⟨w.heap.size, j, none⟩ = false := fun j => by simp
  have zg : ∀ j, ((w.alloc (.cells #[.int .i64 0, .int .i64 0] 27)).alloc (.cells #[.int .i64 0, .int .i64 0] 27)).frozen? ⟨w.heap.size + 1, j, none⟩ = false := fun j => by simp
  go_enter Try.func10, Try.ntmps10
  go_wp2_with fail
  refine (l1New_any a n c _ (hS.bel hW) hn).mono ?_
  rintro e w1 ⟨rfl, hb1, k1⟩
  rw [hWs] at k1
  have hS := hS.bel hW
  go_wp2_with fail
  generalize ((w.alloc (.cells #[.int .i64 0, .int .i64 0] 27)).alloc (.cells #[.int .i64 0, .int .i64 0] 27)) = W at hW hWs z0 z1 z2 z3 zf zg hb1 hS
  refine (drawPoint_any _ a n c W _ hb1 (Nat.le_of_eq hWs) k1 hS hn).mono ?_
  rintro e w2 ⟨x0, y0, rfl, d2⟩
  have hA2 : Bel w2 (w2.alloc (.cells #[.int .i64 x0, .int .i64 y0] 27)) := bel_alloc (Bel.refl _) _
  have d2' := d2.bel hA2
  go_wp2_with fail
  refine (drawPoint_any _ a n c W _ d2'.b (Nat.le_of_eq hWs) d2'.k hS hn).mono ?_
  rintro e w3 ⟨x1, y1, rfl, d3⟩
  have p0 : (w2.alloc (.cells #[.int .i64 x0, .int .i64 y0] 27)).cell? ⟨w2.heap.size, 0, none⟩ = some (.int .i64 x0) := by simp [go_sem]
  have p1 : (w2.alloc (.cells #[.int .i64 x0, .int .i64 y0] 27)).cell? ⟨w2.heap.size, 1, none⟩ = some (.int .i64 y0) := by simp [go_sem]
  have hl2 : w2.heap.size < (w2.alloc (.cells #[.int .i64 x0, .int .i64 y0] 27)).heap.size := by simp
  have hne : w2.heap.size ≠ w.heap.size + 1 + 1 := by have := d2.k.lt; omega
  have p0 := (d3.o.cell w2.heap.size 0 hl2 hne).trans p0
  have p1 := (d3.o.cell w2.heap.size 1 hl2 hne).trans p1
  have h23 : w2.heap.size < w3.heap.size := Nat.lt_of_lt_of_le hl2 d3.o.size
  have h02 : w.heap.size + 1 + 1 < w2.heap.size := d2.k.lt
  have B3 : Bel W w3 := d3.b
  have hl0 : w.heap.size < W.heap.size := by omega
  have hl1 : w.heap.size + 1 < W.heap.size := by omega
  have z0 := cur_cell B3 hl0 z0
  have z1 := cur_cell B3 hl0 z1
  have z2 := cur_cell B3 hl1 z2
  have z3 := cur_cell B3 hl1 z3
  have q0 : w3.frozen? ⟨w.heap.size, 0, none⟩ = false := by rw [B3.out.frozen (p := ⟨w.heap.size, 0, none⟩) hl0]; exact zf 0
  have q1 : w3.frozen? ⟨w.heap.size, 1, none⟩ = false := by rw [B3.out.frozen (p := ⟨w.heap.size, 1, none⟩) hl0]; exact zf 1
  have q2 : w3.frozen? ⟨w.heap.size + 1, 0, none⟩ = false := by rw [B3.out.frozen (p := ⟨w.heap.size + 1, 0, none⟩) hl1]; exact zg 0
  have q3 : w3.frozen? ⟨w.heap.size + 1, 1, none⟩ = false := by rw [B3.out.frozen (p := ⟨w.heap.size + 1, 1, none⟩) hl1]; exact zg 1
  have hB3 := bel_step hW B3
  clear d2 d2' d3 hA2 hb1 k1 B3 zf zg hl0 hl1 hS hW
  have hA3 : Bel w3 (w3.alloc (.cells #[.int .i64 x1, .int .i64 y1] 27)) := bel_alloc (Bel.refl _) _
  have q0 : (w3.alloc (.cells #[.int .i64 x1, .int .i64 y1] 27)).frozen? ⟨w.heap.size, 0, none⟩ = false := by rw [hA3.out.frozen (p := ⟨w.heap.size, 0, none⟩) (by show w.heap.size < w3.heap.size; omega)]; exact q0
  have q1 : (w3.alloc (.cells #[.int .i64 x1, .int .i64 y1] 27)).frozen? ⟨w.heap.size, 1, none⟩ = false := by rw [hA3.out.frozen (p := ⟨w.heap.size, 1, none⟩) (by show w.heap.size < w3.heap.size; omega)]; exact q1
  have q2 : (w3.alloc (.cells #[.int .i64 x1, .int .i64 y1] 27)).frozen? ⟨w.heap.size + 1, 0, none⟩ = false := by rw [hA3.out.frozen (p := ⟨w.heap.size + 1, 0, none⟩) (by show w.heap.size + 1 < w3.heap.size; omega)]; exact q2
  have q3 : (w3.alloc (.cells #[.int .i64 x1, .int .i64 y1] 27)).frozen? ⟨w.heap.size + 1, 1, none⟩ = false := by rw [hA3.out.frozen (p := ⟨w.heap.size + 1, 1, none⟩) (by show w.heap.size + 1 < w3.heap.size; omega)]; exact q3
  have z0 := cur_cell hA3 (by omega) z0
  have z1 := cur_cell hA3 (by omega) z1
  have z2 := cur_cell hA3 (by omega) z2
  have z3 := cur_cell hA3 (by omega) z3
  have p0 := cur_cell hA3 h23 p0
  have p1 := cur_cell hA3 h23 p1
  have p2 : (w3.alloc (.cells #[.int .i64 x1, .int .i64 y1] 27)).cell? ⟨w3.heap.size, 0, none⟩ = some (.int .i64 x1) := by simp [go_sem]
  have p3 : (w3.alloc (.cells #[.int .i64 x1, .int .i64 y1] 27)).cell? ⟨w3.heap.size, 1, none⟩ = some (.int .i64 y1) := by simp [go_sem]
  have hBV := bel_step hB3 hA3
  have n1 : ¬ w2.heap.size = w.heap.size := by omega
  have n2 : ¬ w2.heap.size = w.heap.size + 1 := by omega
  have n3 : ¬ w3.heap.size = w.heap.size := by omega
  have n4 : ¬ w3.heap.size = w.heap.size + 1 := by omega
  go_wp2
  generalize (w3.alloc (.cells #[.int .i64 x1, .int .i64 y1] 27)) = V at hA3 q0 q1 q2 q3 z0 z1 z2 z3 p0 p1 p2 p3 hBV ⊢
  clear hA3
  go_region_held3 (fun w' => w'.cell? ⟨w2.heap.size, 0, none⟩ = some (.int .i64 x0) ∧ w'.cell? ⟨w2.heap.size, 1, none⟩ = some (.int .i64 y0) ∧ w'.cell? ⟨w3.heap.size, 0, none⟩ = some (.int .i64 x1) ∧ w'.cell? ⟨w3.heap.size, 1, none⟩ = some (.int .i64 y1)) (refine ⟨?_, ?_, ?_, ?_⟩ <;> simp [go_sem, p0, p1, p2, p3]) (fail)
  all_goals
    go_wp2
    exact bodyPost_ret (v := .tuple #[pt x0 y0, pt x1 y1]) (by simp [results, Try.results10, go_sem, z0, z1, z2, z3]) rfl ⟨_, _, _, _, rfl, Bel.drew (bel_set (bel_set (bel_set (bel_set hBV (Nat.le_refl _) _) (Nat.le_refl _) _) (Nat.le_succ _) _) (Nat.le_succ _) _)⟩
end Go.Proofs.Ytelaljcglhmmnaa
