/-
  How a tile that is handed in is read and copied.
-/
import Derived.Test.YtldfcnlhjjiihaaGreatCB
namespace Go.Proofs.YtldfcnlhjjiihaaGreat
open Go.ChangeShapes Go.WideShapes Go.ChangeAt Go.RowKit Go.Joins

theorem cellsLTl : Tryz.prog.cellsOf 28 = 3 := by kernel_rfl
set_option maxRecDepth 100000 in
theorem open_til {H : Type} {enc : TypeId × Value → H} {W : World} {base : Nat} {v : Value} {d : DataW H} {p : List MemPlace}
  (hv : Value.okWide Tryz.prog W .any base 28 v) (h : DataW.Trod enc Tryz.prog W 0 (fun _ => true) true 28 v d p) :
  ∃ z x y : Int, v = til z x y := by
 obtain ⟨c0, c1, c2, y0, y1, y2, m, rfl, rfl, rfl, hy0, hy1, hy2⟩ := open_agg3 Tryz.underlying28 (by kernel_rfl) cellsLTl hv h
 obtain ⟨a, e0, rfl, _⟩ := DataW.trod_int Tryz.underlying2 hy0
 obtain ⟨b, e1, rfl, _⟩ := DataW.trod_int Tryz.underlying2 hy1
 obtain ⟨c, e2, rfl, _⟩ := DataW.trod_int Tryz.underlying2 hy2
 simp at e0 e1 e2
 subst e0 e1 e2
 exact ⟨a, b, c, rfl⟩
end Go.Proofs.YtldfcnlhjjiihaaGreat
