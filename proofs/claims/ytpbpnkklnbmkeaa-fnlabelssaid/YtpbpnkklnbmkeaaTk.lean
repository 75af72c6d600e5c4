/-
  Operations of a region that draws its order, taken in few words: the operation itself is read off the region by its number.
-/
import Derived.Test.YtpbpnkklnbmkeaaGeo
import Derived.Deep.RegionHeld3
namespace Go.Proofs.Ytpbpnkklnbmkeaa
open Go.RowKit

section
variable {P : Program} {l : List Oper} {Q : Exit → Act → World → Prop} {md : Region.Mode} {S : World → Prop}

/-- What a temporary holds is put into the list of them. -/
def putL (t : List Value) : Option Nat → Value → List Value
  | some d, v => t.set d v
  | none, _ => t
theorem put_list (t : List Value) (ds : List Deferred) (d : Option Nat) (v : Value) : Act.put ⟨t.toArray, ds⟩ d v = ⟨(putL t d v).toArray, ds⟩ := by
  cases d with
  | none => rfl
  | some d => simp [Act.put, putL]

/-- Number i is taken first: it yields a value in every world that meets S. -/
theorem tk (i : Nat) {oi : Oper} {v : Value} {fuel : Nat} {listed : Array Bool} {t t' : List Value} {ds : List Deferred} {w : World}
    (hS : S w) (h : wpAnyH P md l.toArray Q S fuel (listed.setIfInBounds i true) ⟨t'.toArray, ds⟩ w)
    (hi : l[i]? = some oi := by (dsimp only [List.getElem?_cons_succ, List.getElem?_cons_zero] <;> rfl))
    (hs : Region.noSelect l.toArray = true := by kernel_rfl) (hf : Region.free md l.toArray listed i = true := by kernel_rfl)
    (hr : (Region.ready md l.toArray listed).contains i = true := by kernel_rfl)
    (hg : Region.wanted oi (yielded l.toArray t.toArray) = true := by rfl)
    (hy : ∀ w, S w → (execOp (Act.eval ⟨t.toArray, ds⟩) oi).run P w = .ok (.value v) w := by (intro w hSw; (try dsimp only at hSw); go_simp; try with_reducible rfl))
    (ha : putL t oi.dst v = t' := by (dsimp only [putL, List.set_cons_zero, List.set_cons_succ] <;> rfl))
    (hQ : ∀ c a w, Q (.panic c) (a.put oi.dst v) w → Q (.panic c) a w := by exact fun _ _ _ h => h) : wpAnyH P md l.toArray Q S (fuel + 1) listed ⟨t.toArray, ds⟩ w :=
  wpAnyH_take ((List.getElem?_toArray ..).trans hi) hs hf hr hQ (Or.inl ⟨hg, hy⟩) hS (by rw [put_list, ha]; exact h)

/-- The same, with the value told. -/
theorem tkv (i : Nat) (v : Value) {oi : Oper} {fuel : Nat} {listed : Array Bool} {t t' : List Value} {ds : List Deferred} {w : World}
    (hS : S w) (h : wpAnyH P md l.toArray Q S fuel (listed.setIfInBounds i true) ⟨t'.toArray, ds⟩ w)
    (hi : l[i]? = some oi := by (dsimp only [List.getElem?_cons_succ, List.getElem?_cons_zero] <;> rfl))
    (hs : Region.noSelect l.toArray = true := by kernel_rfl) (hf : Region.free md l.toArray listed i = true := by kernel_rfl)
    (hr : (Region.ready md l.toArray listed).contains i = true := by kernel_rfl)
    (hg : Region.wanted oi (yielded l.toArray t.toArray) = true := by rfl)
    (hy : ∀ w, S w → (execOp (Act.eval ⟨t.toArray, ds⟩) oi).run P w = .ok (.value v) w := by (intro _ _; kernel_rfl))
    (ha : putL t oi.dst v = t' := by (dsimp only [putL, List.set_cons_zero, List.set_cons_succ] <;> rfl))
    (hQ : ∀ c a w, Q (.panic c) (a.put oi.dst v) w → Q (.panic c) a w := by exact fun _ _ _ h => h) : wpAnyH P md l.toArray Q S (fuel + 1) listed ⟨t.toArray, ds⟩ w :=
  wpAnyH_take ((List.getElem?_toArray ..).trans hi) hs hf hr hQ (Or.inl ⟨hg, hy⟩) hS (by rw [put_list, ha]; exact h)

/-- Number i is passed over: its guard says no. -/
theorem sk (i : Nat) {oi : Oper} {fuel : Nat} {listed : Array Bool} {t t' : List Value} {ds : List Deferred} {w : World}
    (hS : S w) (h : wpAnyH P md l.toArray Q S fuel (listed.setIfInBounds i true) ⟨t'.toArray, ds⟩ w)
    (hi : l[i]? = some oi := by (dsimp only [List.getElem?_cons_succ, List.getElem?_cons_zero] <;> rfl))
    (hs : Region.noSelect l.toArray = true := by kernel_rfl) (hf : Region.free md l.toArray listed i = true := by kernel_rfl)
    (hr : (Region.ready md l.toArray listed).contains i = true := by kernel_rfl)
    (hg : Region.wanted oi (yielded l.toArray t.toArray) = false := by rfl)
    (ha : putL t oi.dst undef = t' := by (dsimp only [putL, List.set_cons_zero, List.set_cons_succ] <;> rfl))
    (hQ : ∀ c a w, Q (.panic c) (a.put oi.dst undef) w → Q (.panic c) a w := by exact fun _ _ _ h => h) : wpAnyH P md l.toArray Q S (fuel + 1) listed ⟨t.toArray, ds⟩ w :=
  wpAnyH_take ((List.getElem?_toArray ..).trans hi) hs hf hr hQ (Or.inr ⟨hg, rfl⟩) hS (by rw [put_list, ha]; exact h)

/-- One alone is ready. -/
theorem rd1 (i : Nat) {o : Oper} {fuel : Nat} {listed : Array Bool} {a : Act} {w : World}
    (h : ∀ K' : Act → World → Prop, Shut (∀ a w, S w → (S w → wpAnyH P md l.toArray Q S fuel (listed.setIfInBounds i true) a w) → K' a w) → if Region.wanted o (yielded l.toArray a.tmps) = true then Oper.wp P o a w K' Q else K' (a.put o.dst undef) w)
    (ho : l[i]? = some o := by (dsimp only [List.getElem?_cons_succ, List.getElem?_cons_zero] <;> rfl))
    (hr : Region.ready md l.toArray listed = [i] := by kernel_rfl) : wpAnyH P md l.toArray Q S (fuel + 1) listed a w :=
  wpAnyH_ready hr (by simp) (AllReadyH.cons ((List.getElem?_toArray ..).trans ho) h AllReadyH.nil)

/-- Two are ready. -/
theorem rd2 (i j : Nat) {o p : Oper} {fuel : Nat} {listed : Array Bool} {a : Act} {w : World}
    (h : ∀ K' : Act → World → Prop, Shut (∀ a w, S w → (S w → wpAnyH P md l.toArray Q S fuel (listed.setIfInBounds i true) a w) → K' a w) → if Region.wanted o (yielded l.toArray a.tmps) = true then Oper.wp P o a w K' Q else K' (a.put o.dst undef) w)
    (h' : ∀ K' : Act → World → Prop, Shut (∀ a w, S w → (S w → wpAnyH P md l.toArray Q S fuel (listed.setIfInBounds j true) a w) → K' a w) → if Region.wanted p (yielded l.toArray a.tmps) = true then Oper.wp P p a w K' Q else K' (a.put p.dst undef) w)
    (ho : l[i]? = some o := by (dsimp only [List.getElem?_cons_succ, List.getElem?_cons_zero] <;> rfl))
    (hp : l[j]? = some p := by (dsimp only [List.getElem?_cons_succ, List.getElem?_cons_zero] <;> rfl))
    (hr : Region.ready md l.toArray listed = [i, j] := by kernel_rfl) : wpAnyH P md l.toArray Q S (fuel + 1) listed a w :=
  wpAnyH_ready hr (by simp) (AllReadyH.cons ((List.getElem?_toArray ..).trans ho) h (AllReadyH.cons ((List.getElem?_toArray ..).trans hp) h' AllReadyH.nil))

end
end Go.Proofs.Ytpbpnkklnbmkeaa
