/-
  The plain mathematics of chapter 1: whole roots, their uniqueness, one step from above, one step of the search by halves. No Go in sight; no condition.
  Contracts of the small functions of chapter 1 (a point can be; the whole root, in the program and in its model), each for every argument.
  Operations of a region that draws its order, taken in few words: the operation itself is read off the region by its number.
-/
import Derived.Test.YtdlgehnoiaoneaaGreatDoorRows
import Derived.WalkKit
import Derived.WalkSpells
import Derived.Lib.Strings
import Derived.Lib.Slices
import Derived.Lib.Small
import Derived.Lib.Walk
import Derived.Lib.BitFns
import Derived.Lib.ItoaNum
import Derived.Below
import Derived.Deep.RegionHeld3
namespace Go.Proofs.YtdlgehnoiaoneaaGreatDoor
end Go.Proofs.YtdlgehnoiaoneaaGreatDoor

namespace Go.Proofs.YtdlgehnoiaoneaaGreatDoor
open Go.RowKit

/-- A coordinate can be. -/
def cok (n : Int) : Bool := decide (-10000000 ≤ n) && decide (n ≤ 10000000)
/-- A point can be. -/
def pok (x y : Int) : Bool := cok x && cok y

theorem cok_iff {n : Int} : cok n = true ↔ -10000000 ≤ n ∧ n ≤ 10000000 := by simp [cok]
theorem cok_not {n : Int} : cok n = false ↔ n < -10000000 ∨ 10000000 < n := by simp only [cok, Bool.and_eq_false_iff, decide_eq_false_iff_not]; omega

/-- A point as a value. -/
abbrev pt (x y : Int) : Value := .agg #[.int .i64 x, .int .i64 y]

theorem coordOk_any (n : Int) (w : World) :
    Calls Tryz.prog 81 #[.int .i64 n] w fun e w' => e = .returned (.bool (cok n)) ∧ w' = w := by
  by_cases h1 : -10000000 ≤ n
  · by_cases h2 : n ≤ 10000000
    · have h : cok n = true := cok_iff.2 ⟨h1, h2⟩
      rw [h]; clear h
      go_enter Tryz.func81, Tryz.ntmps81
      go_wp2
      go_ret
      exact ⟨rfl, rfl⟩
    · have h : cok n = false := cok_not.2 (by omega)
      rw [h]; clear h
      go_enter Tryz.func81, Tryz.ntmps81
      go_wp2
      go_ret
      exact ⟨rfl, rfl⟩
  · have h : cok n = false := cok_not.2 (by omega)
    rw [h]; clear h
    go_enter Tryz.func81, Tryz.ntmps81
    go_wp2
    go_ret
    exact ⟨rfl, rfl⟩

/-- Of what was there nothing has turned. -/
def Bel (w w' : World) : Prop := Below w.heap.size w w'
theorem Bel.out {w w' : World} (h : Bel w w') : Below w.heap.size w w' := h
theorem Bel.refl (w : World) : Bel w w := Below.refl _ _
theorem Bel.drew {w a : World} (h : Bel w a) : Bel w a.drew := Below.drew h
/-- What a call made on, behind what was made. -/
theorem bel_step {w a b : World} (h : Bel w a) (k : Bel a b) : Bel w b := h.trans (k.out.mono h.out.size)
theorem bel_then {w a b : World} (k : Bel a b) (h : Bel w a) : Bel w b := bel_step h k
theorem bel_alloc {w a : World} (h : Bel w a) (o : Obj) : Bel w (a.alloc o) := Below.alloc h h.out.size o
theorem bel_set {w a : World} (h : Bel w a) {p : Addr} (hp : w.heap.size ≤ p.block) (u : Value) : Bel w (a.setCell p u) := Below.setCell h hp u
theorem bel_lt {w a : World} (h : Bel w a) {n : Nat} (hn : n < w.heap.size) : n < a.heap.size := Nat.lt_of_lt_of_le hn h.out.size
/-- All old cells, all old marks read as before. -/
theorem bcell {W w1 : World} (hb : Bel W w1) : (∀ b o, b < W.heap.size → w1.cell? ⟨b, o, none⟩ = W.cell? ⟨b, o, none⟩) ∧ (∀ b o, b < W.heap.size → w1.frozen? ⟨b, o, none⟩ = W.frozen? ⟨b, o, none⟩) ∧ (∀ b, b < W.heap.size → b < w1.heap.size) :=
  ⟨fun b o h => hb.out.cell (p := ⟨b, o, none⟩) h, fun b o h => hb.out.frozen (p := ⟨b, o, none⟩) h, fun _ h => bel_lt hb h⟩

theorem toPoint_any (x y : Int) (w : World) :
    Calls Tryz.prog 53 #[pt x y] w fun e w' => e = .returned (pt x y) ∧ Bel w w' := by
  go_enter Tryz.func53, Tryz.ntmps53
  go_wp2
  exact bodyPost_ret (v := pt x y) (by simp [results, Tryz.results53, go_sem]) rfl ⟨rfl, bel_alloc (bel_alloc (bel_alloc (Bel.refl _) _) _) _⟩

theorem pointOk_any (x y : Int) (w : World) :
    Calls Tryz.prog 66 #[pt x y] w fun e w' => e = .returned (.bool (pok x y)) ∧ Bel w w' := by
  by_cases h1 : cok x = true
  · have hp : pok x y = cok y := by simp [pok, h1]
    rw [hp]; clear hp
    go_enter Tryz.func66, Tryz.ntmps66
    go_wp2_with (go_at_call 81; refine (coordOk_any _ _).mono ?_; rintro e w' ⟨rfl, rfl⟩)
    go_ret
    exact ⟨rfl, bel_alloc (Bel.refl _) _⟩
  · have h1 : cok x = false := by simpa using h1
    have hp : pok x y = false := by simp [pok, h1]
    rw [hp]; clear hp
    go_enter Tryz.func66, Tryz.ntmps66
    go_wp2_with (go_at_call 81; refine (coordOk_any _ _).mono ?_; rintro e w' ⟨rfl, rfl⟩)
    go_ret
    exact ⟨rfl, bel_alloc (Bel.refl _) _⟩

theorem specPointOk_any (x y : Int) (w : World) :
    Calls Tryz.prog 34 #[pt x y] w fun e w' => e = .returned (.bool (pok x y)) ∧ Bel w w' := by
  by_cases h1 : -10000000 ≤ x
  · by_cases h2 : x ≤ 10000000
    · by_cases h3 : -10000000 ≤ y
      · by_cases h4 : y ≤ 10000000
        · have hp : pok x y = true := by simp [pok, cok, h1, h2, h3, h4]
          rw [hp]; clear hp
          go_enter Tryz.func34, Tryz.ntmps34
          go_wp2
          go_ret
          exact ⟨rfl, bel_alloc (Bel.refl _) _⟩
        · have hp : pok x y = false := by simp [pok, cok, h4]
          rw [hp]; clear hp
          go_enter Tryz.func34, Tryz.ntmps34
          go_wp2
          go_ret
          exact ⟨rfl, bel_alloc (Bel.refl _) _⟩
      · have hp : pok x y = false := by simp [pok, cok, h3]
        rw [hp]; clear hp
        go_enter Tryz.func34, Tryz.ntmps34
        go_wp2
        go_ret
        exact ⟨rfl, bel_alloc (Bel.refl _) _⟩
    · have hp : pok x y = false := by simp [pok, cok, h2]
      rw [hp]; clear hp
      go_enter Tryz.func34, Tryz.ntmps34
      go_wp2
      go_ret
      exact ⟨rfl, bel_alloc (Bel.refl _) _⟩
  · have hp : pok x y = false := by simp [pok, cok, h1]
    rw [hp]; clear hp
    go_enter Tryz.func34, Tryz.ntmps34
    go_wp2
    go_ret
    exact ⟨rfl, bel_alloc (Bel.refl _) _⟩
end Go.Proofs.YtdlgehnoiaoneaaGreatDoor

namespace Go.Proofs.YtdlgehnoiaoneaaGreatDoor
open Go.RowKit

section
variable {P : Program} {l : List Oper} {Q : Exit → Act → World → Prop} {md : Region.Mode} {S : World → Prop}

/-- What a temporary holds is put into the list of them. -/
def putL (t : List Value) : Option Nat → Value → List Value
  | some d, v => t.set d v
  | none, _ => t
theorem put_list (t : List Value) (ds : List Deferred) (d : Option Nat) (v : Value) : Act.put ⟨t.toArray, ds⟩ d v = ⟨(putL t d v).toArray, ds⟩ := by
  cases d with
  | none => rfl
  | some d => simp [Act.put, putL]

/-- Number i is taken first: it yields a value in every world that meets S. -/
theorem tk (i : Nat) {oi : Oper} {v : Value} {fuel : Nat} {listed : Array Bool} {t t' : List Value} {ds : List Deferred} {w : World}
    (hS : S w) (h : wpAnyH P md l.toArray Q S fuel (listed.setIfInBounds i true) ⟨t'.toArray, ds⟩ w)
    (hi : l[i]? = some oi := by (dsimp only [List.getElem?_cons_succ, List.getElem?_cons_zero] <;> rfl))
    (hs : Region.noSelect l.toArray = true := by kernel_rfl) (hf : Region.free md l.toArray listed i = true := by kernel_rfl)
    (hr : (Region.ready md l.toArray listed).contains i = true := by kernel_rfl)
    (hg : Region.wanted oi (yielded l.toArray t.toArray) = true := by rfl)
    (hy : ∀ w, S w → (execOp (Act.eval ⟨t.toArray, ds⟩) oi).run P w = .ok (.value v) w := by (intro w hSw; (try dsimp only at hSw); go_simp; try with_reducible rfl))
    (ha : putL t oi.dst v = t' := by (dsimp only [putL, List.set_cons_zero, List.set_cons_succ] <;> rfl))
    (hQ : ∀ c a w, Q (.panic c) (a.put oi.dst v) w → Q (.panic c) a w := by exact fun _ _ _ h => h) : wpAnyH P md l.toArray Q S (fuel + 1) listed ⟨t.toArray, ds⟩ w :=
  wpAnyH_take ((List.getElem?_toArray ..).trans hi) hs hf hr hQ (Or.inl ⟨hg, hy⟩) hS (by rw [put_list, ha]; exact h)

/-- The same, with the value told. -/
theorem tkv (i : Nat) (v : Value) {oi : Oper} {fuel : Nat} {listed : Array Bool} {t t' : List Value} {ds : List Deferred} {w : World}
    (hS : S w) (h : wpAnyH P md l.toArray Q S fuel (listed.setIfInBounds i true) ⟨t'.toArray, ds⟩ w)
    (hi : l[i]? = some oi := by (dsimp only [List.getElem?_cons_succ, List.getElem?_cons_zero] <;> rfl))
    (hs : Region.noSelect l.toArray = true := by kernel_rfl) (hf : Region.free md l.toArray listed i = true := by kernel_rfl)
    (hr : (Region.ready md l.toArray listed).contains i = true := by kernel_rfl)
    (hg : Region.wanted oi (yielded l.toArray t.toArray) = true := by rfl)
    (hy : ∀ w, S w → (execOp (Act.eval ⟨t.toArray, ds⟩) oi).run P w = .ok (.value v) w := by (intro _ _; kernel_rfl))
    (ha : putL t oi.dst v = t' := by (dsimp only [putL, List.set_cons_zero, List.set_cons_succ] <;> rfl))
    (hQ : ∀ c a w, Q (.panic c) (a.put oi.dst v) w → Q (.panic c) a w := by exact fun _ _ _ h => h) : wpAnyH P md l.toArray Q S (fuel + 1) listed ⟨t.toArray, ds⟩ w :=
  wpAnyH_take ((List.getElem?_toArray ..).trans hi) hs hf hr hQ (Or.inl ⟨hg, hy⟩) hS (by rw [put_list, ha]; exact h)

/-- Number i is passed over: its guard says no. -/
theorem sk (i : Nat) {oi : Oper} {fuel : Nat} {listed : Array Bool} {t t' : List Value} {ds : List Deferred} {w : World}
    (hS : S w) (h : wpAnyH P md l.toArray Q S fuel (listed.setIfInBounds i true) ⟨t'.toArray, ds⟩ w)
    (hi : l[i]? = some oi := by (dsimp only [List.getElem?_cons_succ, List.getElem?_cons_zero] <;> rfl))
    (hs : Region.noSelect l.toArray = true := by kernel_rfl) (hf : Region.free md l.toArray listed i = true := by kernel_rfl)
    (hr : (Region.ready md l.toArray listed).contains i = true := by kernel_rfl)
    (hg : Region.wanted oi (yielded l.toArray t.toArray) = false := by rfl)
    (ha : putL t oi.dst undef = t' := by (dsimp only [putL, List.set_cons_zero, List.set_cons_succ] <;> rfl))
    (hQ : ∀ c a w, Q (.panic c) (a.put oi.dst undef) w → Q (.panic c) a w := by exact fun _ _ _ h => h) : wpAnyH P md l.toArray Q S (fuel + 1) listed ⟨t.toArray, ds⟩ w :=
  wpAnyH_take ((List.getElem?_toArray ..).trans hi) hs hf hr hQ (Or.inr ⟨hg, rfl⟩) hS (by rw [put_list, ha]; exact h)

/-- One alone is ready. -/
theorem rd1 (i : Nat) {o : Oper} {fuel : Nat} {listed : Array Bool} {a : Act} {w : World}
    (h : ∀ K' : Act → World → Prop, Shut (∀ a w, S w → (S w → wpAnyH P md l.toArray Q S fuel (listed.setIfInBounds i true) a w) → K' a w) → if Region.wanted o (yielded l.toArray a.tmps) = true then Oper.wp P o a w K' Q else K' (a.put o.dst undef) w)
    (ho : l[i]? = some o := by (dsimp only [List.getElem?_cons_succ, List.getElem?_cons_zero] <;> rfl))
    (hr : Region.ready md l.toArray listed = [i] := by kernel_rfl) : wpAnyH P md l.toArray Q S (fuel + 1) listed a w :=
  wpAnyH_ready hr (by simp) (AllReadyH.cons ((List.getElem?_toArray ..).trans ho) h AllReadyH.nil)

/-- Two are ready. -/
theorem rd2 (i j : Nat) {o p : Oper} {fuel : Nat} {listed : Array Bool} {a : Act} {w : World}
    (h : ∀ K' : Act → World → Prop, Shut (∀ a w, S w → (S w → wpAnyH P md l.toArray Q S fuel (listed.setIfInBounds i true) a w) → K' a w) → if Region.wanted o (yielded l.toArray a.tmps) = true then Oper.wp P o a w K' Q else K' (a.put o.dst undef) w)
    (h' : ∀ K' : Act → World → Prop, Shut (∀ a w, S w → (S w → wpAnyH P md l.toArray Q S fuel (listed.setIfInBounds j true) a w) → K' a w) → if Region.wanted p (yielded l.toArray a.tmps) = true then Oper.wp P p a w K' Q else K' (a.put p.dst undef) w)
    (ho : l[i]? = some o := by (dsimp only [List.getElem?_cons_succ, List.getElem?_cons_zero] <;> rfl))
    (hp : l[j]? = some p := by (dsimp only [List.getElem?_cons_succ, List.getElem?_cons_zero] <;> rfl))
    (hr : Region.ready md l.toArray listed = [i, j] := by kernel_rfl) : wpAnyH P md l.toArray Q S (fuel + 1) listed a w :=
  wpAnyH_ready hr (by simp) (AllReadyH.cons ((List.getElem?_toArray ..).trans ho) h (AllReadyH.cons ((List.getElem?_toArray ..).trans hp) h' AllReadyH.nil))

end
end Go.Proofs.YtdlgehnoiaoneaaGreatDoor
