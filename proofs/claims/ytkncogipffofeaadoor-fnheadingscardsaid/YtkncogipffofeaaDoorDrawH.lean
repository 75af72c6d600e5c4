/-
  What the model draws for Heading: any two points.
-/
import Derived.Test.YtkncogipffofeaaDoorDrawT
namespace Go.Proofs.YtkncogipffofeaaDoor
open Go.RowKit

theorem Drawn.drw {w0 w : World} {B : Nat} {a : Option Addr} {n c : Nat} {v : World} (h : Drawn w0 w B a n c v) : Drawn w0 w B a n c v.drew := h.bel (Bel.drew (Bel.refl _))
theorem Drawn.self {w0 w : World} {B : Nat} {a : Option Addr} {n c : Nat} (hb : Bel w0 w) (k : Cur w B a n c) : Drawn w0 w B a n c w := ⟨hb, OnlyB.refl _ _, k⟩
theorem below_at {w0 w v : World} {B : Nat} {a : Option Addr} {n c : Nat} (D : Drawn w0 w B a n c v) (hB : w0.heap.size ≤ B) (hS : Bts w0 a n) (hn : n ≤ 1048576) (m : Int) (m0 : 0 < m) (m1 : m ≤ 9223372036854775807) :
    Calls Tryd.prog 21 #[.pointer (some ⟨B, 0, none⟩), .int .i64 m] v fun e w' => ∃ x : Int, e = .returned (.int .i64 x) ∧ (0 ≤ x ∧ x < m) ∧ Drawn w0 w B a n c w' :=
  (below_any B a n c w0 v D.b hB D.k hS hn m m0 m1).mono fun _ _ ⟨x, e, h, d⟩ => ⟨x, e, h, D.then d⟩

set_option maxRecDepth 100000 in
set_option maxHeartbeats 4000000 in
theorem drawHeading_any (a : Option Addr) (n c : Nat) (w : World) (hS : Bts w a n) (hn : n ≤ 1048576) :
    Calls Tryd.prog 13 #[.slice a n c] w fun e w' => ∃ x0 y0 x1 y1 : Int, e = .returned (.tuple #[pt x0 y0, pt x1 y1]) ∧ Bel w w' := by
  obtain ⟨W, HW⟩ : ∃ W, Hid (W = ((w.alloc (.cells #[.int .i64 0, .int .i64 0] 25)).alloc (.cells #[.int .i64 0, .int .i64 0] 25))) := ⟨_, (rfl : ((w.alloc (.cells #[.int .i64 0, .int .i64 0] 25)).alloc (.cells #[.int .i64 0, .int .i64 0] 25)) = _)⟩
  have hW : Bel w W := by rw [HW.out]; exact bel_alloc (bel_alloc (Bel.refl _) _) _
  have hWs : W.heap.size = w.heap.size + 1 + 1 := by rw [HW.out]; simp
  have Z0 : Pa W (w.heap.size) 0 0 := by
    rw [HW.out]
    have := (Pa.new w 0 0 25).bel (bel_alloc (Bel.refl _) (.cells #[.int .i64 0, .int .i64 0] 25))
    simpa using this
  have Z1 : Pa W (w.heap.size + 1) 0 0 := by
    rw [HW.out]
    have := (Pa.new (w.alloc (.cells #[.int .i64 0, .int .i64 0] 25)) 0 0 25).bel (Bel.refl _)
    simpa using this
  have HS := hS.bel hW
  go_enter Tryd.func13, Tryd.ntmps13
  go_wp2_with fail
  rw [← HW.out]
  refine (l1New_any a n c W HS hn).mono ?_
  rintro e w1 ⟨rfl, hb1, k1⟩
  rw [hWs] at k1
  rw [hWs]
  go_wp2_with fail
  refine (drawPoint_any _ a n c W w1 hb1 (Nat.le_of_eq hWs) k1 HS hn).mono ?_
  rintro e w2 ⟨x0, y0, rfl, d2⟩
  have h12 : w.heap.size + 1 + 1 < w2.heap.size := d2.k.lt
  have P0 := Pa.new w2 x0 y0 25
  have d2 := d2.bel (bel_alloc (Bel.refl w2) (.cells #[.int .i64 x0, .int .i64 y0] 25))
  go_wp2_with fail
  refine (drawPoint_any _ a n c W _ d2.b (Nat.le_of_eq hWs) d2.k HS hn).mono ?_
  rintro e w3 ⟨x1, y1, rfl, d3⟩
  have h23 : w2.heap.size < w3.heap.size := Nat.lt_of_lt_of_le (by simp) d3.o.size
  have P0 := (P0.drawn d3 (by omega)).bel (bel_alloc (Bel.refl w3) (.cells #[.int .i64 x1, .int .i64 y1] 25))
  have P1 := Pa.new w3 x1 y1 25
  have d3 := d3.bel (bel_alloc (Bel.refl w3) (.cells #[.int .i64 x1, .int .i64 y1] 25))
  go_wp2_with fail
  refine (once_any _ a n c W _ d3.b (Nat.le_of_eq hWs) d3.k HS hn 4 (by decide) (by decide)).mono ?_
  rintro e w5 ⟨t, rfl, d5⟩
  have P0 := P0.drawn d5 (by omega)
  have P1 := P1.drawn d5 (by omega)
  have D5 : Drawn W w5 (w.heap.size + 1 + 1) a n c w5 := Drawn.self d5.b d5.k
  have HWs : Hid (W.heap.size = w.heap.size + 1 + 1) := hWs
  have hb4 : W.heap.size ≤ w3.heap.size := by omega
  have HB : Hid (Bel W w5) := d5.b
  clear d2 d3 d5 k1 hb1 hWs HW hS
  cases t
  · clear D5
    go_wp2
    obtain ⟨x3, y3, P1⟩ : ∃ x3 y3, Pa w5 w3.heap.size x3 y3 := ⟨_, _, P1⟩
    obtain ⟨V, hV⟩ : ∃ V : World, V = w5 := ⟨_, rfl⟩
    subst hV
    have BV := HB.out
    have p0 := P0.c0
    have p1 := P0.c1
    have Y0 := Z0.bel BV
    have z0 := Y0.c0
    have z1 := Y0.c1
    have q0 := Y0.fr 0
    have q1 := Y0.fr 1
    have p2 := P1.c0
    have p3 := P1.c1
    have Y1 := Z1.bel BV
    have z2 := Y1.c0
    have z3 := Y1.c1
    have q2 := Y1.fr 0
    have q3 := Y1.fr 1
    have n5 : ¬ w2.heap.size = w.heap.size := by omega
    have n6 : ¬ w2.heap.size = w.heap.size + 1 := by omega
    have n7 : ¬ w3.heap.size = w.heap.size := by omega
    have n8 : ¬ w3.heap.size = w.heap.size + 1 := by omega
    have BB := bel_step hW BV
    go_region_held3 (fun w' => w'.cell? ⟨w2.heap.size, 0, none⟩ = some (.int .i64 x0) ∧ w'.cell? ⟨w2.heap.size, 1, none⟩ = some (.int .i64 y0) ∧ w'.cell? ⟨w3.heap.size, 0, none⟩ = some (.int .i64 x3) ∧ w'.cell? ⟨w3.heap.size, 1, none⟩ = some (.int .i64 y3)) (refine ⟨?_, ?_, ?_, ?_⟩ <;> simp [go_sem, p0, p1, p2, p3]) (fail)
    all_goals
      go_wp2
      exact bodyPost_ret (v := .tuple #[pt x0 y0, pt x3 y3]) (by simp [results, Tryd.results13, go_sem, z0, z1, z2, z3]) rfl ⟨_, _, _, _, rfl, Bel.drew (bel_set (bel_set (bel_set (bel_set BB (Nat.le_refl _) _) (Nat.le_refl _) _) (Nat.le_succ _) _) (Nat.le_succ _) _)⟩
  · have hR : ∀ v, Drawn W w5 (w.heap.size + 1 + 1) a n c v → v.cell? ⟨w2.heap.size, 0, none⟩ = some (.int .i64 x0) ∧ v.cell? ⟨w2.heap.size, 1, none⟩ = some (.int .i64 y0) ∧ v.cell? ⟨w3.heap.size, 0, none⟩ = some (.int .i64 x1) ∧ v.cell? ⟨w3.heap.size, 1, none⟩ = some (.int .i64 y1) ∧ v.frozen? ⟨w3.heap.size, 0, none⟩ = false ∧ v.frozen? ⟨w3.heap.size, 1, none⟩ = false := fun v h =>
      have p := P0.drawn h (by omega)
      have q := P1.drawn h (by omega)
      ⟨p.c0, p.c1, q.c0, q.c1, q.fr 0, q.fr 1⟩
    have n1 : ¬ w3.heap.size = w2.heap.size := by omega
    have n2 : ¬ w2.heap.size = w3.heap.size := by omega
    go_wp2
    go_region_held3 (fun w' => w'.cell? ⟨w2.heap.size, 0, none⟩ = some (.int .i64 x0) ∧ w'.cell? ⟨w2.heap.size, 1, none⟩ = some (.int .i64 y0))
      (refine ⟨?_, ?_⟩ <;> simp [go_sem, hR _ (by assumption)])
      (first | (go_at_call 21; refine (below_at (w0 := W) (w := w5) (B := w.heap.size + 1 + 1) (a := a) (n := n) (c := c) (v := _) (by with_reducible (repeat (first | assumption | refine Drawn.drw ?_))) (Nat.le_of_eq HWs.out) HS hn 3 (by decide) (by decide)).mono ?_; rintro e w' ⟨x, rfl, ⟨xa, xb⟩, D'⟩))
    rename_i wa xq Da xqa xqb hH
    have R0 := P0.drawn D' (by omega)
    have R1 := P1.drawn D' (by omega)
    clear hH hR Da
    generalize IntKind.i64.wrap (x0 + IntKind.i64.wrap (5 * IntKind.i64.wrap (xq - 1))) = x3
    generalize IntKind.i64.wrap (y0 + IntKind.i64.wrap (2 * IntKind.i64.wrap (x - 1))) = y3
    have P0 : Pa ((w'.setCell ⟨w3.heap.size, 0, none⟩ (.int .i64 x3)).setCell ⟨w3.heap.size, 1, none⟩ (.int .i64 y3)) w2.heap.size x0 y0 := (R0.far n2 _ _).far n2 _ _
    have P1 := R1.put x3 y3
    have BV : Bel W ((w'.setCell ⟨w3.heap.size, 0, none⟩ (.int .i64 x3)).setCell ⟨w3.heap.size, 1, none⟩ (.int .i64 y3)) := bel_set (bel_set D'.b hb4 _) hb4 _
    clear R0 R1 D'
    generalize (w'.setCell ⟨w3.heap.size, 0, none⟩ (.int .i64 x3)).setCell ⟨w3.heap.size, 1, none⟩ (.int .i64 y3) = V at P0 P1 BV ⊢
    go_wp2
    have p0 := P0.c0
    have p1 := P0.c1
    have Y0 := Z0.bel BV
    have z0 := Y0.c0
    have z1 := Y0.c1
    have q0 := Y0.fr 0
    have q1 := Y0.fr 1
    have p2 := P1.c0
    have p3 := P1.c1
    have Y1 := Z1.bel BV
    have z2 := Y1.c0
    have z3 := Y1.c1
    have q2 := Y1.fr 0
    have q3 := Y1.fr 1
    have n5 : ¬ w2.heap.size = w.heap.size := by omega
    have n6 : ¬ w2.heap.size = w.heap.size + 1 := by omega
    have n7 : ¬ w3.heap.size = w.heap.size := by omega
    have n8 : ¬ w3.heap.size = w.heap.size + 1 := by omega
    have BB := bel_step hW BV
    go_region_held3 (fun w' => w'.cell? ⟨w2.heap.size, 0, none⟩ = some (.int .i64 x0) ∧ w'.cell? ⟨w2.heap.size, 1, none⟩ = some (.int .i64 y0) ∧ w'.cell? ⟨w3.heap.size, 0, none⟩ = some (.int .i64 x3) ∧ w'.cell? ⟨w3.heap.size, 1, none⟩ = some (.int .i64 y3)) (refine ⟨?_, ?_, ?_, ?_⟩ <;> simp [go_sem, p0, p1, p2, p3]) (fail)
    all_goals
      go_wp2
      exact bodyPost_ret (v := .tuple #[pt x0 y0, pt x3 y3]) (by simp [results, Tryd.results13, go_sem, z0, z1, z2, z3]) rfl ⟨_, _, _, _, rfl, Bel.drew (bel_set (bel_set (bel_set (bel_set BB (Nat.le_refl _) _) (Nat.le_refl _) _) (Nat.le_succ _) _) (Nat.le_succ _) _)⟩
end Go.Proofs.YtkncogipffofeaaDoor
