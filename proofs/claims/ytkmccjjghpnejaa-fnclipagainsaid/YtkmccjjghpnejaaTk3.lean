/-
  Three operations of a region that draws are ready.
-/
import Derived.Test.YtkmccjjghpnejaaGA
namespace Go.Proofs.Ytkmccjjghpnejaa
open Go.RowKit
section
variable {P : Program} {l : List Oper} {Q : Exit → Act → World → Prop} {md : Region.Mode} {S : World → Prop}
/-- Three are ready. -/
theorem rd3 (i j k : Nat) {o p r : Oper} {fuel : Nat} {listed : Array Bool} {a : Act} {w : World}
  (h : ∀ K' : Act → World → Prop, Shut (∀ a w, S w → (S w → wpAnyH P md l.toArray Q S fuel (listed.setIfInBounds i true) a w) → K' a w) → if Region.wanted o (yielded l.toArray a.tmps) = true then Oper.wp P o a w K' Q else K' (a.put o.dst undef) w)
  (h' : ∀ K' : Act → World → Prop, Shut (∀ a w, S w → (S w → wpAnyH P md l.toArray Q S fuel (listed.setIfInBounds j true) a w) → K' a w) → if Region.wanted p (yielded l.toArray a.tmps) = true then Oper.wp P p a w K' Q else K' (a.put p.dst undef) w)
  (h'' : ∀ K' : Act → World → Prop, Shut (∀ a w, S w → (S w → wpAnyH P md l.toArray Q S fuel (listed.setIfInBounds k true) a w) → K' a w) → if Region.wanted r (yielded l.toArray a.tmps) = true then Oper.wp P r a w K' Q else K' (a.put r.dst undef) w)
  (ho : l[i]? = some o := by (dsimp only [List.getElem?_cons_succ, List.getElem?_cons_zero] <;> rfl))
  (hp : l[j]? = some p := by (dsimp only [List.getElem?_cons_succ, List.getElem?_cons_zero] <;> rfl))
  (hr' : l[k]? = some r := by (dsimp only [List.getElem?_cons_succ, List.getElem?_cons_zero] <;> rfl))
  (hr : Region.ready md l.toArray listed = [i, j, k] := by kernel_rfl) : wpAnyH P md l.toArray Q S (fuel + 1) listed a w :=
 wpAnyH_ready hr (by simp) (AllReadyH.cons ((List.getElem?_toArray ..).trans ho) h (AllReadyH.cons ((List.getElem?_toArray ..).trans hp) h' (AllReadyH.cons ((List.getElem?_toArray ..).trans hr') h'' AllReadyH.nil)))
end
end Go.Proofs.Ytkmccjjghpnejaa
