/-
  A row of points as a list: read as two rows of numbers; how one that is handed in is read.
-/
import Derived.Test.YtldfcnlhjjiihaaGreatCB
import Derived.Test.YtldfcnlhjjiihaaGreatCE
namespace Go.Proofs.YtldfcnlhjjiihaaGreat
open Go.ChangeShapes Go.WideShapes Go.ChangeAt Go.RowKit Go.Deep Go.Joins

instance : Inhabited PtD := ⟨⟨0, 0⟩⟩

section
variable {H : Type} {enc : TypeId × Value → H} {W : World} {base : Nat} {spare : Nat → Bool} {held : Bool}
end
def lx (l : List PtD) (i : Nat) : Int := (l.getD i ⟨0, 0⟩).x
def ly (l : List PtD) (i : Nat) : Int := (l.getD i ⟨0, 0⟩).y
theorem lx_at {l : List PtD} {i : Nat} (h : i < l.length) : lx l i = l[i].x := by simp [lx, h]
theorem ly_at {l : List PtD} {i : Nat} (h : i < l.length) : ly l i = l[i].y := by simp [ly, h]
theorem Sl.pts {w : World} {a : Option Addr} {l : List PtD} {bs : List Nat} (h : PtL w a l bs) : Pts w a l.length (lx l) (ly l) := by
 rcases h with ⟨rfl, _⟩ | ⟨b, off, f, h1, h2, _, h4⟩
 ·exact .inl rfl
 ·refine .inr ⟨b, off, h1, h2, fun i hi => ?_⟩
  obtain ⟨_, _, _, c0, c1⟩ := h4 i hi
  rw [lx_at hi, ly_at hi]
  exact ⟨c0, c1⟩
end Go.Proofs.YtldfcnlhjjiihaaGreat
