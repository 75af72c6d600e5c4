/-
  What the model draws for Turn: any three points.
-/
import Derived.Test.YtkncogipffofeaaDrawC
import Derived.Test.YtkncogipffofeaaOpen
namespace Go.Proofs.Ytkncogipffofeaa
open Go.RowKit

theorem big_any (a : Option Addr) (n c : Nat) (w : World) :
    Calls Try.prog 4 #[.slice a n c] w fun e w' => e = .returned (.bool (decide (1048576 < (n : Int)))) ∧ w' = w := by
  go_enter Try.func4, Try.ntmps4
  go_wp2
  go_ret
  exact ⟨rfl, rfl⟩

/-- A point lies in a block that may be written. -/
structure Pa (w : World) (b : Nat) (x y : Int) : Prop where
  c0 : w.cell? ⟨b, 0, none⟩ = some (.int .i64 x)
  c1 : w.cell? ⟨b, 1, none⟩ = some (.int .i64 y)
  fr : ∀ j, w.frozen? ⟨b, j, none⟩ = false
  lt : b < w.heap.size
theorem Pa.new (w : World) (x y : Int) (t : TypeId) : Pa (w.alloc (.cells #[.int .i64 x, .int .i64 y] t)) w.heap.size x y := ⟨by simp [go_sem], by simp [go_sem], fun j => by simp, by simp⟩
theorem Pa.bel {w w' : World} {b : Nat} {x y : Int} (h : Pa w b x y) (k : Bel w w') : Pa w' b x y :=
  ⟨cur_cell k h.lt h.c0, cur_cell k h.lt h.c1, fun j => by rw [k.out.frozen (p := ⟨b, j, none⟩) h.lt]; exact h.fr j, bel_lt k h.lt⟩
theorem Pa.drawn {w w' w0 : World} {b B : Nat} {x y : Int} {a : Option Addr} {n c : Nat} (h : Pa w b x y) (d : Drawn w0 w B a n c w') (hn : b ≠ B) : Pa w' b x y :=
  ⟨(d.o.cell b 0 h.lt hn).trans h.c0, (d.o.cell b 1 h.lt hn).trans h.c1, fun j => (d.o.froz b j h.lt hn).trans (h.fr j), Nat.lt_of_lt_of_le h.lt d.o.size⟩
theorem Pa.far {w : World} {b : Nat} {x y : Int} (h : Pa w b x y) {C : Nat} (hn : b ≠ C) (o : Nat) (u : Value) : Pa (w.setCell ⟨C, o, none⟩ u) b x y := by
  have e : ∀ j, (w.setCell ⟨C, o, none⟩ u).cell? ⟨b, j, none⟩ = w.cell? ⟨b, j, none⟩ := fun j => World.cell?_setCell_other _ _ _ _ (fun e => hn (congrArg Addr.block e).symm)
  exact ⟨by rw [e]; exact h.c0, by rw [e]; exact h.c1, fun j => by rw [World.frozen?_setCell]; exact h.fr j, by simpa [World.setCell] using h.lt⟩
theorem Pa.put {w : World} {b : Nat} {x y : Int} (h : Pa w b x y) (x' y' : Int) : Pa ((w.setCell ⟨b, 0, none⟩ (.int .i64 x')).setCell ⟨b, 1, none⟩ (.int .i64 y')) b x' y' :=
  ⟨by simp [go_sem, h.c0], by simp [go_sem, h.c1], fun j => by rw [World.frozen?_setCell, World.frozen?_setCell]; exact h.fr j, by simpa [World.setCell] using h.lt⟩

set_option maxRecDepth 100000 in
set_option maxHeartbeats 4000000 in
theorem drawTurn_any (a : Option Addr) (n c : Nat) (w : World) (hS : Bts w a n) (hn : n ≤ 1048576) :
    Calls Try.prog 5 #[.slice a n c] w fun e w' => ∃ x0 y0 x1 y1 x2 y2 : Int, e = .returned (.tuple #[pt x0 y0, pt x1 y1, pt x2 y2]) ∧ Bel w w' := by
  obtain ⟨W, HW⟩ : ∃ W, Hid (W = ((w.alloc (.cells #[.int .i64 0, .int .i64 0] 25)).alloc (.cells #[.int .i64 0, .int .i64 0] 25)).alloc (.cells #[.int .i64 0, .int .i64 0] 25)) := ⟨_, (rfl : ((w.alloc (.cells #[.int .i64 0, .int .i64 0] 25)).alloc (.cells #[.int .i64 0, .int .i64 0] 25)).alloc (.cells #[.int .i64 0, .int .i64 0] 25) = _)⟩
  have hW : Bel w W := by rw [HW.out]; exact bel_alloc (bel_alloc (bel_alloc (Bel.refl _) _) _) _
  have hWs : W.heap.size = w.heap.size + 1 + 1 + 1 := by rw [HW.out]; simp
  have Z0 : Pa W w.heap.size 0 0 := by rw [HW.out]; exact (Pa.new w 0 0 _).bel (bel_alloc (bel_alloc (Bel.refl _) _) _)
  have Z1 : Pa W (w.heap.size + 1) 0 0 := by
    rw [HW.out]
    have := (Pa.new (w.alloc (.cells #[.int .i64 0, .int .i64 0] 25)) 0 0 25).bel (bel_alloc (Bel.refl _) (.cells #[.int .i64 0, .int .i64 0] 25))
    simpa using this
  have Z2 : Pa W (w.heap.size + 1 + 1) 0 0 := by
    rw [HW.out]
    have := Pa.new ((w.alloc (.cells #[.int .i64 0, .int .i64 0] 25)).alloc (.cells #[.int .i64 0, .int .i64 0] 25)) 0 0 25
    simpa using this
  have HS := hS.bel hW
  go_enter Try.func5, Try.ntmps5
  go_wp2_with fail
  rw [← HW.out]
  refine (l1New_any a n c W HS hn).mono ?_
  rintro e w1 ⟨rfl, hb1, k1⟩
  rw [hWs] at k1
  rw [hWs]
  go_wp2_with fail
  refine (drawPoint_any _ a n c W w1 hb1 (Nat.le_of_eq hWs) k1 HS hn).mono ?_
  rintro e w2 ⟨x0, y0, rfl, d2⟩
  have h12 : w.heap.size + 1 + 1 + 1 < w2.heap.size := d2.k.lt
  have P0 := Pa.new w2 x0 y0 25
  have d2 := d2.bel (bel_alloc (Bel.refl w2) (.cells #[.int .i64 x0, .int .i64 y0] 25))
  go_wp2_with fail
  refine (drawPoint_any _ a n c W _ d2.b (Nat.le_of_eq hWs) d2.k HS hn).mono ?_
  rintro e w3 ⟨x1, y1, rfl, d3⟩
  have h23 : w2.heap.size < w3.heap.size := Nat.lt_of_lt_of_le (by simp) d3.o.size
  have P0 := (P0.drawn d3 (by omega)).bel (bel_alloc (Bel.refl w3) (.cells #[.int .i64 x1, .int .i64 y1] 25))
  have P1 := Pa.new w3 x1 y1 25
  have d3 := d3.bel (bel_alloc (Bel.refl w3) (.cells #[.int .i64 x1, .int .i64 y1] 25))
  go_wp2_with fail
  refine (drawPoint_any _ a n c W _ d3.b (Nat.le_of_eq hWs) d3.k HS hn).mono ?_
  rintro e w4 ⟨x2, y2, rfl, d4⟩
  have h34 : w3.heap.size < w4.heap.size := Nat.lt_of_lt_of_le (by simp) d4.o.size
  have P0 := (P0.drawn d4 (by omega)).bel (bel_alloc (Bel.refl w4) (.cells #[.int .i64 x2, .int .i64 y2] 25))
  have P1 := (P1.drawn d4 (by omega)).bel (bel_alloc (Bel.refl w4) (.cells #[.int .i64 x2, .int .i64 y2] 25))
  have P2 := Pa.new w4 x2 y2 25
  have d4 := d4.bel (bel_alloc (Bel.refl w4) (.cells #[.int .i64 x2, .int .i64 y2] 25))
  go_wp2_with fail
  refine (once_any _ a n c W _ d4.b (Nat.le_of_eq hWs) d4.k HS hn 4 (by decide) (by decide)).mono ?_
  rintro e w5 ⟨t, rfl, d5⟩
  have P0 := P0.drawn d5 (by omega)
  have P1 := P1.drawn d5 (by omega)
  have P2 := P2.drawn d5 (by omega)
  have Z0 := Z0.bel d5.b
  have Z1 := Z1.bel d5.b
  have Z2 := Z2.bel d5.b
  have B5 := bel_step hW d5.b
  clear d2 d3 d4 d5 k1 hb1 HS hWs hW HW hS
  have hb4 : w.heap.size ≤ w4.heap.size := by omega
  have HE : ∃ V : World, V = w5 := ⟨_, rfl⟩
  cases t
  · go_wp2
    obtain ⟨x3, y3, P2⟩ : ∃ x3 y3, Pa w5 w4.heap.size x3 y3 := ⟨_, _, P2⟩
    obtain ⟨V, hV⟩ := HE
    subst hV
    have p0 := P0.c0
    have p1 := P0.c1
    have z0 := Z0.c0
    have z1 := Z0.c1
    have q0 := Z0.fr 0
    have q1 := Z0.fr 1
    have p2 := P1.c0
    have p3 := P1.c1
    have z2 := Z1.c0
    have z3 := Z1.c1
    have q2 := Z1.fr 0
    have q3 := Z1.fr 1
    have p4 := P2.c0
    have p5 := P2.c1
    have z4 := Z2.c0
    have z5 := Z2.c1
    have q4 := Z2.fr 0
    have q5 := Z2.fr 1
    have n0 : ¬ w2.heap.size = w.heap.size := by omega
    have n1 : ¬ w2.heap.size = w.heap.size + 1 := by omega
    have n2 : ¬ w2.heap.size = w.heap.size + 1 + 1 := by omega
    have n3 : ¬ w3.heap.size = w.heap.size := by omega
    have n4 : ¬ w3.heap.size = w.heap.size + 1 := by omega
    have n5 : ¬ w3.heap.size = w.heap.size + 1 + 1 := by omega
    have n6 : ¬ w4.heap.size = w.heap.size := by omega
    have n7 : ¬ w4.heap.size = w.heap.size + 1 := by omega
    have n8 : ¬ w4.heap.size = w.heap.size + 1 + 1 := by omega
    go_region_held3 (fun w' => w'.cell? ⟨w2.heap.size, 0, none⟩ = some (.int .i64 x0) ∧ w'.cell? ⟨w2.heap.size, 1, none⟩ = some (.int .i64 y0) ∧ w'.cell? ⟨w3.heap.size, 0, none⟩ = some (.int .i64 x1) ∧ w'.cell? ⟨w3.heap.size, 1, none⟩ = some (.int .i64 y1) ∧ w'.cell? ⟨w4.heap.size, 0, none⟩ = some (.int .i64 x3) ∧ w'.cell? ⟨w4.heap.size, 1, none⟩ = some (.int .i64 y3)) (refine ⟨?_, ?_, ?_, ?_, ?_, ?_⟩ <;> simp [go_sem, p0, p1, p2, p3, p4, p5]) (fail)
    all_goals
      go_wp2
      exact bodyPost_ret (v := .tuple #[pt x0 y0, pt x1 y1, pt x3 y3]) (by simp [results, Try.results5, go_sem, z0, z1, z2, z3, z4, z5]) rfl ⟨_, _, _, _, _, _, rfl, Bel.drew (bel_set (bel_set (bel_set (bel_set (bel_set (bel_set B5 (Nat.le_refl _) _) (Nat.le_refl _) _) (Nat.le_succ _) _) (Nat.le_succ _) _) (Nat.le_add_right _ 2) _) (Nat.le_add_right _ 2) _)⟩
  · have f0 := P2.fr 0
    have f1 := P2.fr 1
    have p0 := P0.c0
    have p1 := P0.c1
    have p2 := P1.c0
    have p3 := P1.c1
    have p4 := P2.c0
    have p5 := P2.c1
    go_wp2
    have F : ∀ {b : Nat} {x y : Int}, Pa w5 b x y → b ≠ w4.heap.size → Pa ((w5.setCell ⟨w4.heap.size, 0, none⟩ (.int .i64 (wrap64 (wrap64 (2 * x1) - x0)))).setCell ⟨w4.heap.size, 1, none⟩ (.int .i64 (wrap64 (wrap64 (2 * y1) - y0)))) b x y := fun h k => (h.far k _ _).far k _ _
    have P0 := F P0 (by omega)
    have P1 := F P1 (by omega)
    have Z0 := F Z0 (by omega)
    have Z1 := F Z1 (by omega)
    have Z2 := F Z2 (by omega)
    have P2 := P2.put (wrap64 (wrap64 (2 * x1) - x0)) (wrap64 (wrap64 (2 * y1) - y0))
    have B5 : Bel w ((w5.setCell ⟨w4.heap.size, 0, none⟩ (.int .i64 (wrap64 (wrap64 (2 * x1) - x0)))).setCell ⟨w4.heap.size, 1, none⟩ (.int .i64 (wrap64 (wrap64 (2 * y1) - y0)))) := bel_set (bel_set B5 hb4 _) hb4 _
    clear p0 p1 p2 p3 p4 p5 f0 f1 F
    generalize (w5.setCell ⟨w4.heap.size, 0, none⟩ (.int .i64 (wrap64 (wrap64 (2 * x1) - x0)))).setCell ⟨w4.heap.size, 1, none⟩ (.int .i64 (wrap64 (wrap64 (2 * y1) - y0))) = V at P0 P1 P2 Z0 Z1 Z2 B5 ⊢
    generalize wrap64 (wrap64 (2 * x1) - x0) = x3 at P2 ⊢
    generalize wrap64 (wrap64 (2 * y1) - y0) = y3 at P2 ⊢
    have p0 := P0.c0
    have p1 := P0.c1
    have z0 := Z0.c0
    have z1 := Z0.c1
    have q0 := Z0.fr 0
    have q1 := Z0.fr 1
    have p2 := P1.c0
    have p3 := P1.c1
    have z2 := Z1.c0
    have z3 := Z1.c1
    have q2 := Z1.fr 0
    have q3 := Z1.fr 1
    have p4 := P2.c0
    have p5 := P2.c1
    have z4 := Z2.c0
    have z5 := Z2.c1
    have q4 := Z2.fr 0
    have q5 := Z2.fr 1
    have n0 : ¬ w2.heap.size = w.heap.size := by omega
    have n1 : ¬ w2.heap.size = w.heap.size + 1 := by omega
    have n2 : ¬ w2.heap.size = w.heap.size + 1 + 1 := by omega
    have n3 : ¬ w3.heap.size = w.heap.size := by omega
    have n4 : ¬ w3.heap.size = w.heap.size + 1 := by omega
    have n5 : ¬ w3.heap.size = w.heap.size + 1 + 1 := by omega
    have n6 : ¬ w4.heap.size = w.heap.size := by omega
    have n7 : ¬ w4.heap.size = w.heap.size + 1 := by omega
    have n8 : ¬ w4.heap.size = w.heap.size + 1 + 1 := by omega
    go_region_held3 (fun w' => w'.cell? ⟨w2.heap.size, 0, none⟩ = some (.int .i64 x0) ∧ w'.cell? ⟨w2.heap.size, 1, none⟩ = some (.int .i64 y0) ∧ w'.cell? ⟨w3.heap.size, 0, none⟩ = some (.int .i64 x1) ∧ w'.cell? ⟨w3.heap.size, 1, none⟩ = some (.int .i64 y1) ∧ w'.cell? ⟨w4.heap.size, 0, none⟩ = some (.int .i64 x3) ∧ w'.cell? ⟨w4.heap.size, 1, none⟩ = some (.int .i64 y3)) (refine ⟨?_, ?_, ?_, ?_, ?_, ?_⟩ <;> simp [go_sem, p0, p1, p2, p3, p4, p5]) (fail)
    all_goals
      go_wp2
      exact bodyPost_ret (v := .tuple #[pt x0 y0, pt x1 y1, pt x3 y3]) (by simp [results, Try.results5, go_sem, z0, z1, z2, z3, z4, z5]) rfl ⟨_, _, _, _, _, _, rfl, Bel.drew (bel_set (bel_set (bel_set (bel_set (bel_set (bel_set B5 (Nat.le_refl _) _) (Nat.le_refl _) _) (Nat.le_succ _) _) (Nat.le_succ _) _) (Nat.le_add_right _ 2) _) (Nat.le_add_right _ 2) _)⟩
end Go.Proofs.Ytkncogipffofeaa
