/-
  How a tile that is handed in is read and copied.
-/
import Derived.Test.YthlgednppcapbaaTilC
namespace Go.Proofs.Ythlgednppcapbaa
open Go.ChangeShapes Go.WideShapes Go.ChangeAt Go.RowKit Go.Joins

theorem cellsLTl : Try.prog.cellsOf 23 = 3 := by kernel_rfl
set_option maxRecDepth 100000 in
theorem open_til {H : Type} {enc : TypeId × Value → H} {W : World} {base : Nat} {v : Value} {d : DataW H} {p : List MemPlace}
    (hv : Value.okWide Try.prog W .any base 23 v) (h : DataW.Trod enc Try.prog W 0 (fun _ => true) true 23 v d p) :
    ∃ z x y : Int, v = til z x y := by
  obtain ⟨c0, c1, c2, y0, y1, y2, m, rfl, rfl, rfl, hy0, hy1, hy2⟩ := open_agg3 Try.underlying23 (by kernel_rfl) cellsLTl hv h
  obtain ⟨a, e0, rfl, _⟩ := DataW.trod_int Try.underlying2 hy0
  obtain ⟨b, e1, rfl, _⟩ := DataW.trod_int Try.underlying2 hy1
  obtain ⟨c, e2, rfl, _⟩ := DataW.trod_int Try.underlying2 hy2
  simp at e0 e1 e2
  subst e0 e1 e2
  exact ⟨a, b, c, rfl⟩
theorem lawToTile_any (x0 : Int) (x1 : Int) (x2 : Int) (w : World) :
    Calls Try.prog 9 #[til x0 x1 x2] w fun e w' => e = .returned (til x0 x1 x2) ∧ Bel w w' := by
  go_enter Try.func9, Try.ntmps9
  go_wp2
  exact bodyPost_ret (v := til x0 x1 x2) (by simp [results, Try.results9, go_sem]) rfl ⟨rfl, bel_alloc (bel_alloc (bel_alloc (Bel.refl _) _) _) _⟩
set_option maxHeartbeats 1000000 in
theorem eqBx_same (q : BoxD) (w : World) :
    Calls Try.prog 13 #[bxv q, bxv q] w fun e w' => e = .returned (.bool true) ∧ Bel w w' := by
  obtain ⟨W, HW⟩ : ∃ W, Hid (W = (w.alloc (.cells #[.int .i64 q.a, .int .i64 q.b, .int .i64 q.c, .int .i64 q.d] 31)).alloc (.cells #[.int .i64 q.a, .int .i64 q.b, .int .i64 q.c, .int .i64 q.d] 31)) := ⟨_, (rfl : (w.alloc (.cells #[.int .i64 q.a, .int .i64 q.b, .int .i64 q.c, .int .i64 q.d] 31)).alloc (.cells #[.int .i64 q.a, .int .i64 q.b, .int .i64 q.c, .int .i64 q.d] 31) = _)⟩
  have hBW : Bel w W := by rw [HW.out]; exact bel_alloc (bel_alloc (Bel.refl _) _) _
  have X0 : Blk W w.heap.size [.int .i64 q.a, .int .i64 q.b, .int .i64 q.c, .int .i64 q.d] := by rw [HW.out]; exact (Blk.new w [.int .i64 q.a, .int .i64 q.b, .int .i64 q.c, .int .i64 q.d] _).bel (bel_alloc (Bel.refl _) _)
  have X1 : Blk W (w.heap.size + 1) [.int .i64 q.a, .int .i64 q.b, .int .i64 q.c, .int .i64 q.d] := by rw [HW.out]; exact Blk.new1 w _ [.int .i64 q.a, .int .i64 q.b, .int .i64 q.c, .int .i64 q.d] _
  have eqP : ∀ (x y : Int) (w : World), Calls Try.prog 35 #[pt x y, pt x y] w fun e w' => e = .returned (.bool true) ∧ Bel w w' := by
    intro x y w
    go_enter Try.func35, Try.ntmps35
    go_wp2
    go_ret
    exact ⟨rfl, bel_alloc (bel_alloc (Bel.refl _) _) _⟩
  go_enter Try.func13, Try.ntmps13
  go_wp2_with fail
  rw [← HW.out]
  refine (eqP _ _ _).mono ?_
  rintro e w1 ⟨rfl, hb1⟩
  have Y0 := X0.bel hb1
  have Y1 := X1.bel hb1
  have c2 := Y0.cell 2 (by simp)
  have c3 := Y0.cell 3 (by simp)
  have d2 := Y1.cell 2 (by simp)
  have d3 := Y1.cell 3 (by simp)
  simp only [List.getElem_cons_zero, List.getElem_cons_succ] at c2 c3 d2 d3
  have hB1 := bel_step hBW hb1
  clear X0 X1 Y0 Y1 HW
  go_wp2_with fail
  refine (eqP _ _ _).mono ?_
  rintro e w2 ⟨rfl, hb2⟩
  have hB2 := bel_step hB1 hb2
  go_wp2
  go_ret
  exact ⟨rfl, hB2⟩
end Go.Proofs.Ythlgednppcapbaa
