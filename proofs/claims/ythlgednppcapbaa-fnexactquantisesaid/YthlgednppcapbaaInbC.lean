/-
  What lies in a box: the question for one point; how a box that is handed in is read and copied.
-/
import Derived.Test.YthlgednppcapbaaMem
import Derived.Test.YthlgednppcapbaaWordC
import Derived.Test.YthlgednppcapbaaOpenD
namespace Go.Proofs.Ythlgednppcapbaa
open Go.ChangeShapes Go.WideShapes Go.ChangeAt Go.RowKit Go.Deep Go.Joins

structure BoxD where
  a : Int
  b : Int
  c : Int
  d : Int
def ptB (q : BoxD) (x y : Int) : Bool := decide (q.a ≤ x) && (decide (x ≤ q.c) && (decide (q.b ≤ y) && decide (y ≤ q.d)))
theorem cellsLPt : Try.prog.cellsOf 34 = 2 := by kernel_rfl
set_option maxHeartbeats 1000000 in
theorem holds_any (q : BoxD) (x y : Int) (w : World) :
    Calls Try.prog 52 #[.agg #[.int .i64 q.a, .int .i64 q.b, .int .i64 q.c, .int .i64 q.d], .agg #[.int .i64 x, .int .i64 y]] w fun e w' => e = .returned (.bool (ptB q x y)) ∧ Bel w w' := by
  have hB : Bel w ((w.alloc (.cells #[.int .i64 q.a, .int .i64 q.b, .int .i64 q.c, .int .i64 q.d] 31)).alloc (.cells #[.int .i64 x, .int .i64 y] 29)) := bel_alloc (bel_alloc (Bel.refl _) _) _
  obtain ⟨r, Hr⟩ : ∃ r, Hid (ptB q x y = r) := ⟨_, (rfl : ptB q x y = _)⟩
  rw [Hr.out]
  by_cases h1 : q.a ≤ x <;> by_cases h2 : x ≤ q.c <;> by_cases h3 : q.b ≤ y <;> by_cases h4 : y ≤ q.d <;> (
    have HE : Hid (r = (decide (q.a ≤ x) && (decide (x ≤ q.c) && (decide (q.b ≤ y) && decide (y ≤ q.d))))) := Hr.out.symm
    go_enter Try.func52, Try.ntmps52
    go_wp2
    go_ret
    exact ⟨ret_bl (by rw [HE.out]; simp [h1, h2, h3, h4]), hB⟩)

set_option maxHeartbeats 1000000 in
theorem l2In_any (q : BoxD) (x y : Int) (w : World) :
    Calls Try.prog 69 #[.agg #[.int .i64 q.a, .int .i64 q.b, .int .i64 q.c, .int .i64 q.d], .agg #[.int .i64 x, .int .i64 y]] w fun e w' => e = .returned (.bool (ptB q x y)) ∧ Bel w w' := by
  have hB : Bel w ((w.alloc (.cells #[.int .i64 q.a, .int .i64 q.b, .int .i64 q.c, .int .i64 q.d] 31)).alloc (.cells #[.int .i64 x, .int .i64 y] 29)) := bel_alloc (bel_alloc (Bel.refl _) _) _
  obtain ⟨r, Hr⟩ : ∃ r, Hid (ptB q x y = r) := ⟨_, (rfl : ptB q x y = _)⟩
  rw [Hr.out]
  by_cases h1 : q.a ≤ x <;> by_cases h2 : x ≤ q.c <;> by_cases h3 : q.b ≤ y <;> by_cases h4 : y ≤ q.d <;> (
    have HE : Hid (r = (decide (q.a ≤ x) && (decide (x ≤ q.c) && (decide (q.b ≤ y) && decide (y ≤ q.d))))) := Hr.out.symm
    go_enter Try.func69, Try.ntmps69
    go_wp2
    go_ret
    exact ⟨ret_bl (by rw [HE.out]; simp [h1, h2, h3, h4]), hB⟩)

theorem cellsLBox : Try.prog.cellsOf 36 = 4 := by kernel_rfl
set_option maxRecDepth 100000 in
theorem open_box {H : Type} {enc : TypeId × Value → H} {W : World} {base : Nat} {v : Value} {d : DataW H} {p : List MemPlace}
    (hv : Value.okWide Try.prog W .any base 36 v) (h : DataW.Trod enc Try.prog W 0 (fun _ => true) true 36 v d p) :
    ∃ q : BoxD, v = .agg #[.int .i64 q.a, .int .i64 q.b, .int .i64 q.c, .int .i64 q.d] := by
  obtain ⟨cs, rfl, hcs⟩ := okWide_struct Try.underlying36 hv
  obtain ⟨fuel, hf⟩ := h
  rw [cellsLBox] at hcs
  obtain ⟨y0, y1, m, _, _, g0, g1⟩ := trod_struct2 Try.underlying36 hf
  obtain ⟨l⟩ := cs
  match l, hcs with
  | [v0, v1, v2, v3], _ =>
    obtain ⟨p0, p1, m', _, _, k0, k1⟩ := trod_struct2 (t := 34) Try.underlying34 g0
    obtain ⟨s0, e0, _, _⟩ := DataW.trod_int (t := 2) Try.underlying2 k0
    obtain ⟨s1, e1, _, _⟩ := DataW.trod_int (t := 2) Try.underlying2 k1
    obtain ⟨p2, p3, m'', _, _, k2, k3⟩ := trod_struct2 (t := 34) Try.underlying34 g1
    obtain ⟨s2, e2, _, _⟩ := DataW.trod_int (t := 2) Try.underlying2 k2
    obtain ⟨s3, e3, _, _⟩ := DataW.trod_int (t := 2) Try.underlying2 k3
    have e0 : v0 = .int .i64 s0 := by simpa [cellsI64, cellsLPt, Value.cells] using e0
    have e1 : v1 = .int .i64 s1 := by simpa [cellsI64, cellsLPt, Value.cells] using e1
    have e2 : v2 = .int .i64 s2 := by simpa [cellsI64, cellsLPt, Value.cells] using e2
    have e3 : v3 = .int .i64 s3 := by simpa [cellsI64, cellsLPt, Value.cells] using e3
    exact ⟨⟨s0, s1, s2, s3⟩, by rw [e0, e1, e2, e3]⟩

set_option maxRecDepth 100000 in
set_option maxHeartbeats 1000000 in
theorem toBox_any (q : BoxD) (w : World) :
    Calls Try.prog 15 #[.agg #[.int .i64 q.a, .int .i64 q.b, .int .i64 q.c, .int .i64 q.d]] w fun e w' => e = .returned (.agg #[.int .i64 q.a, .int .i64 q.b, .int .i64 q.c, .int .i64 q.d]) ∧ Bel w w' := by
  obtain ⟨W, HW⟩ : ∃ W, Hid (W = ((w.alloc (.cells #[.int .i64 q.a, .int .i64 q.b, .int .i64 q.c, .int .i64 q.d] 36)).alloc (.cells #[.int .i64 0, .int .i64 0, .int .i64 0, .int .i64 0] 31)).alloc (.cells #[.int .i64 0, .int .i64 0, .int .i64 0, .int .i64 0] 31)) := ⟨_, (rfl : ((w.alloc (.cells #[.int .i64 q.a, .int .i64 q.b, .int .i64 q.c, .int .i64 q.d] 36)).alloc (.cells #[.int .i64 0, .int .i64 0, .int .i64 0, .int .i64 0] 31)).alloc (.cells #[.int .i64 0, .int .i64 0, .int .i64 0, .int .i64 0] 31) = _)⟩
  have hBW : Bel w W := by rw [HW.out]; exact bel_alloc (bel_alloc (bel_alloc (Bel.refl _) _) _) _
  have X0 : Blk W w.heap.size [.int .i64 q.a, .int .i64 q.b, .int .i64 q.c, .int .i64 q.d] := by rw [HW.out]; exact (Blk.new w [.int .i64 q.a, .int .i64 q.b, .int .i64 q.c, .int .i64 q.d] _).bel (bel_alloc (bel_alloc (Bel.refl _) _) _)
  have X1 : Blk W (w.heap.size + 1) [.int .i64 0, .int .i64 0, .int .i64 0, .int .i64 0] := by rw [HW.out]; exact (Blk.new1 w _ [.int .i64 0, .int .i64 0, .int .i64 0, .int .i64 0] _).bel (bel_alloc (Bel.refl _) _)
  have X2 : Blk W (w.heap.size + 1 + 1) [.int .i64 0, .int .i64 0, .int .i64 0, .int .i64 0] := by rw [HW.out]; exact Blk.new2 w _ _ [.int .i64 0, .int .i64 0, .int .i64 0, .int .i64 0] _
  go_enter Try.func15, Try.ntmps15
  go_wp2_with fail
  rw [← HW.out]
  refine (toPoint_any _ _ _).mono ?_
  rintro e w1 ⟨rfl, hb1⟩
  have Y0 := X0.bel hb1
  have Y1 := X1.bel hb1
  have Y2 := X2.bel hb1
  have hB1 := bel_step hBW hb1
  obtain ⟨V, HV⟩ : ∃ V, Hid (V = setRow w1 (w.heap.size + 1 + 1) 0 [.int .i64 q.a, .int .i64 q.b]) := ⟨_, (rfl : setRow w1 (w.heap.size + 1 + 1) 0 [.int .i64 q.a, .int .i64 q.b] = _)⟩
  have HVe : Hid (V = (w1.setCell ⟨w.heap.size + 1 + 1, 0, none⟩ (.int .i64 q.a)).setCell ⟨w.heap.size + 1 + 1, 1, none⟩ (.int .i64 q.b)) := HV.out
  have Z0 : Blk V w.heap.size [.int .i64 q.a, .int .i64 q.b, .int .i64 q.c, .int .i64 q.d] := by rw [HVe.out]; exact (Y0.far (by omega)).far (by omega)
  have Z1 : Blk V (w.heap.size + 1) [.int .i64 0, .int .i64 0, .int .i64 0, .int .i64 0] := by rw [HVe.out]; exact (Y1.far (by omega)).far (by omega)
  have Z2 : Blk V (w.heap.size + 1 + 1) [.int .i64 q.a, .int .i64 q.b, .int .i64 0, .int .i64 0] := by rw [HVe.out]; exact (Y2.set 0 _ (by simp)).set 1 _ (by simp)
  have hBV : Bel w V := by rw [HV.out]; exact setRow_bel hB1 (by omega) _ _
  have c0 : w1.cell? ⟨w.heap.size, 2, none⟩ = some (.int .i64 q.c) := Y0.cell 2 (by simp)
  have c1 : w1.cell? ⟨w.heap.size, 3, none⟩ = some (.int .i64 q.d) := Y0.cell 3 (by simp)
  have e0 : w1.cell? ⟨w.heap.size + 1 + 1, 0, none⟩ = some (.int .i64 0) := Y2.cell 0 (by simp)
  have e1 : w1.cell? ⟨w.heap.size + 1 + 1, 1, none⟩ = some (.int .i64 0) := Y2.cell 1 (by simp)
  have f0 := Y2.free 0
  have f1 := Y2.free 1
  clear HW X0 X1 X2 Y0 Y1 Y2
  go_wp2_with fail
  rw [← HVe.out]
  refine (toPoint_any _ _ _).mono ?_
  rintro e w2 ⟨rfl, hb2⟩
  have U1 := Z1.bel hb2
  have U2 := Z2.bel hb2
  have hB2 := bel_step hBV hb2
  have g0 : w2.cell? ⟨w.heap.size + 1 + 1, 0, none⟩ = some (.int .i64 q.a) := U2.cell 0 (by simp)
  have g1 : w2.cell? ⟨w.heap.size + 1 + 1, 1, none⟩ = some (.int .i64 q.b) := U2.cell 1 (by simp)
  have g2 : w2.cell? ⟨w.heap.size + 1 + 1, 2, none⟩ = some (.int .i64 0) := U2.cell 2 (by simp)
  have g3 : w2.cell? ⟨w.heap.size + 1 + 1, 3, none⟩ = some (.int .i64 0) := U2.cell 3 (by simp)
  have h2 := U2.free 2
  have h3 := U2.free 3
  have r0 : w2.cell? ⟨w.heap.size + 1, 0, none⟩ = some (.int .i64 0) := U1.cell 0 (by simp)
  have r1 : w2.cell? ⟨w.heap.size + 1, 1, none⟩ = some (.int .i64 0) := U1.cell 1 (by simp)
  have r2 : w2.cell? ⟨w.heap.size + 1, 2, none⟩ = some (.int .i64 0) := U1.cell 2 (by simp)
  have r3 : w2.cell? ⟨w.heap.size + 1, 3, none⟩ = some (.int .i64 0) := U1.cell 3 (by simp)
  have y0 := U1.free 0
  have y1 := U1.free 1
  have y2 := U1.free 2
  have y3 := U1.free 3
  have hB : Hid (Bel w (setRow (setRow w2 (w.heap.size + 1 + 1) 2 [.int .i64 q.c, .int .i64 q.d]) (w.heap.size + 1) 0 [.int .i64 q.a, .int .i64 q.b, .int .i64 q.c, .int .i64 q.d])) := setRow_bel (setRow_bel hB2 (by omega) _ _) (by omega) _ _
  clear c0 c1 e0 e1 f0 f1 Z0 Z1 Z2 U1 U2 HVe HV
  go_wp2
  exact bodyPost_ret (v := .agg #[.int .i64 q.a, .int .i64 q.b, .int .i64 q.c, .int .i64 q.d]) (by simp [results, Try.results15, go_sem, r0, r1, r2, r3]) rfl ⟨rfl, hB.out⟩
end Go.Proofs.Ythlgednppcapbaa
