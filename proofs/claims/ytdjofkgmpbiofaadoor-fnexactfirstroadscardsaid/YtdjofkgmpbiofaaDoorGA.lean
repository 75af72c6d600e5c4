/-
  The plain mathematics of chapter 1: whole roots, their uniqueness, one step from above, one step of the search by halves. No Go in sight; no condition.
  Contracts of the small functions of chapter 1 (a point can be; the whole root, in the program and in its model), each for every argument.
  Operations of a region that draws its order, taken in few words: the operation itself is read off the region by its number.
-/
import Derived.Test.YtdjofkgmpbiofaaDoorRows
import Derived.WalkKit
import Derived.WalkSpells
import Derived.Lib.Strings
import Derived.Lib.Slices
import Derived.Lib.Small
import Derived.Lib.Walk
import Derived.Lib.BitFns
import Derived.Lib.ItoaNum
import Derived.Below
import Derived.Deep.RegionHeld3
namespace Go.Proofs.YtdjofkgmpbiofaaDoor
/-- r is the whole root of n. -/
def IsRoot (n r : Int) : Prop := 0 ≤ r ∧ r * r ≤ n ∧ n < (r + 1) * (r + 1)

theorem sq_lt {a b : Int} (ha : 0 ≤ a) (h : a * a < b * b) (hb : 0 ≤ b) : a < b := by
  rcases Int.lt_or_le a b with h1 | h1
  · exact h1
  · have := Int.mul_le_mul h1 h1 hb ha; omega

theorem isRoot_unique {n a b : Int} (ha : IsRoot n a) (hb : IsRoot n b) : a = b := by
  obtain ⟨a0, a1, a2⟩ := ha
  obtain ⟨b0, b1, b2⟩ := hb
  have h1 : a < b + 1 := sq_lt a0 (by omega) (by omega)
  have h2 : b < a + 1 := sq_lt b0 (by omega) (by omega)
  omega

/-- One step of Newton's from above stays above. -/
theorem newton_above {n r q : Int} (hr : 0 < r) (hq0 : 0 ≤ q) (hq : n < r * (q + 1)) (x : Int) (hx : r + q + 1 ≤ 2 * (x + 1)) : n < (x + 1) * (x + 1) := by
  -- (r + (q+1))^2 ≥ 4 r (q+1)
  have h1 : 0 ≤ (r - (q + 1)) * (r - (q + 1)) := by
    rcases Int.le_total 0 (r - (q + 1)) with h | h
    · exact Int.mul_nonneg h h
    · exact Int.mul_nonneg_of_nonpos_of_nonpos h h
  have h2 : (r + (q + 1)) * (r + (q + 1)) ≤ (2 * (x + 1)) * (2 * (x + 1)) := by
    have h : r + (q + 1) ≤ 2 * (x + 1) := by omega
    exact Int.mul_le_mul h h (by omega) (by omega)
  have e1 : (r - (q + 1)) * (r - (q + 1)) = (r + (q + 1)) * (r + (q + 1)) - 4 * (r * (q + 1)) := by
    simp only [Int.mul_add, Int.add_mul, Int.sub_mul, Int.mul_sub, Int.mul_one, Int.one_mul, Int.mul_comm q r]; omega
  have e2 : (2 * (x + 1)) * (2 * (x + 1)) = 4 * ((x + 1) * (x + 1)) := by
    simp only [Int.mul_add, Int.add_mul, Int.mul_one, Int.one_mul, Int.mul_assoc, Int.mul_left_comm x 2 ]; omega
  omega

theorem div_facts (n r : Int) (hn : 0 ≤ n) (hr : 0 < r) : 0 ≤ n / r ∧ r * (n / r) ≤ n ∧ n < r * (n / r + 1) := by
  refine ⟨Int.ediv_nonneg hn (by omega), ?_, ?_⟩
  · exact Int.mul_ediv_self_le (by omega)
  · have := Int.lt_mul_ediv_self_add (x := n) hr; rw [Int.mul_add]; omega

/-- What one round knows of 'n / r'. -/
theorem newton_q {n r : Int} (hr : 0 < r) (hn : 0 < n) (hab : n < (r + 1) * (r + 1)) : 0 ≤ n / r ∧ n / r ≤ r + 2 ∧ 2 ≤ r + n / r := by
  obtain ⟨q0, q1, q2⟩ := div_facts n r (by omega) hr
  refine ⟨q0, ?_, ?_⟩
  · rcases Int.lt_or_le (n / r) (r + 3) with h | h
    · omega
    · have h1 : r * (r + 3) ≤ r * (n / r) := Int.mul_le_mul_of_nonneg_left h (by omega)
      have e1 : r * (r + 3) = r * r + 3 * r := by rw [Int.mul_add]; omega
      have e2 : (r + 1) * (r + 1) = r * r + 2 * r + 1 := by simp only [Int.mul_add, Int.add_mul, Int.mul_one, Int.one_mul]; omega
      omega
  · by_cases h : r = 1
    · subst h; simp; omega
    · omega

theorem newton_stop {n r : Int} (hr : 0 < r) (hn : 0 < n) (hab : n < (r + 1) * (r + 1)) (h : r ≤ (r + n / r) / 2) : IsRoot n r := by
  obtain ⟨q0, q1, q2⟩ := div_facts n r (by omega) hr
  refine ⟨by omega, ?_, hab⟩
  have h1 : r ≤ n / r := by omega
  have h2 : r * r ≤ r * (n / r) := Int.mul_le_mul_of_nonneg_left h1 (by omega)
  omega

theorem newton_go {n r : Int} (hr : 0 < r) (hn : 0 < n) : n < ((r + n / r) / 2 + 1) * ((r + n / r) / 2 + 1) := by
  obtain ⟨q0, q1, q2⟩ := div_facts n r (by omega) hr
  exact newton_above hr q0 q2 _ (by omega)

/-- The binary search's step. -/
theorem half_low {low high : Int} (h0 : 0 ≤ low) (h : low < high) (hh : high ≤ 3037000499) : low < (low + high + 1) / 2 ∧ (low + high + 1) / 2 ≤ high ∧ 0 ≤ ((low + high + 1) / 2) * ((low + high + 1) / 2) ∧ ((low + high + 1) / 2) * ((low + high + 1) / 2) ≤ 9223372030926249001 := by
  have h1 : 0 ≤ (low + high + 1) / 2 := by omega
  have h2 : (low + high + 1) / 2 ≤ 3037000499 := by omega
  refine ⟨by omega, by omega, Int.mul_nonneg h1 h1, ?_⟩
  have := Int.mul_le_mul h2 h2 h1 (by decide)
  omega
end Go.Proofs.YtdjofkgmpbiofaaDoor

namespace Go.Proofs.YtdjofkgmpbiofaaDoor
open Go.RowKit

/-- A coordinate can be. -/
def cok (n : Int) : Bool := decide (-10000000 ≤ n) && decide (n ≤ 10000000)
/-- A point can be. -/
def pok (x y : Int) : Bool := cok x && cok y

theorem cok_iff {n : Int} : cok n = true ↔ -10000000 ≤ n ∧ n ≤ 10000000 := by simp [cok]
theorem cok_not {n : Int} : cok n = false ↔ n < -10000000 ∨ 10000000 < n := by simp only [cok, Bool.and_eq_false_iff, decide_eq_false_iff_not]; omega

/-- A point as a value. -/
abbrev pt (x y : Int) : Value := .agg #[.int .i64 x, .int .i64 y]

theorem coordOk_any (n : Int) (w : World) :
    Calls Tryd.prog 80 #[.int .i64 n] w fun e w' => e = .returned (.bool (cok n)) ∧ w' = w := by
  by_cases h1 : -10000000 ≤ n
  · by_cases h2 : n ≤ 10000000
    · have h : cok n = true := cok_iff.2 ⟨h1, h2⟩
      rw [h]; clear h
      go_enter Tryd.func80, Tryd.ntmps80
      go_wp2
      go_ret
      exact ⟨rfl, rfl⟩
    · have h : cok n = false := cok_not.2 (by omega)
      rw [h]; clear h
      go_enter Tryd.func80, Tryd.ntmps80
      go_wp2
      go_ret
      exact ⟨rfl, rfl⟩
  · have h : cok n = false := cok_not.2 (by omega)
    rw [h]; clear h
    go_enter Tryd.func80, Tryd.ntmps80
    go_wp2
    go_ret
    exact ⟨rfl, rfl⟩

/-- Of what was there nothing has turned. -/
def Bel (w w' : World) : Prop := Below w.heap.size w w'
theorem Bel.out {w w' : World} (h : Bel w w') : Below w.heap.size w w' := h
theorem Bel.refl (w : World) : Bel w w := Below.refl _ _
theorem Bel.drew {w a : World} (h : Bel w a) : Bel w a.drew := Below.drew h
/-- What a call made on, behind what was made. -/
theorem bel_step {w a b : World} (h : Bel w a) (k : Bel a b) : Bel w b := h.trans (k.out.mono h.out.size)
theorem bel_then {w a b : World} (k : Bel a b) (h : Bel w a) : Bel w b := bel_step h k
theorem bel_alloc {w a : World} (h : Bel w a) (o : Obj) : Bel w (a.alloc o) := Below.alloc h h.out.size o
theorem bel_set {w a : World} (h : Bel w a) {p : Addr} (hp : w.heap.size ≤ p.block) (u : Value) : Bel w (a.setCell p u) := Below.setCell h hp u
theorem bel_set2 {w a b : World} (h : Bel w a) (hb : Bel w b) {o : Nat} {s : Option Nat} (u : Value) : Bel w (a.setCell ⟨b.heap.size, o, s⟩ u) := bel_set h hb.out.size u
theorem bel_set3 {w a b : World} (h : Bel w a) (hb : Bel w b) {o : Nat} {s : Option Nat} (u : Value) : Bel w (a.setCell ⟨b.heap.size + 1, o, s⟩ u) := bel_set h (Nat.le_trans hb.out.size (Nat.le_succ _)) u
theorem bel_lt {w a : World} (h : Bel w a) {n : Nat} (hn : n < w.heap.size) : n < a.heap.size := Nat.lt_of_lt_of_le hn h.out.size
/-- All old cells, all old marks read as before. -/
theorem bcell {W w1 : World} (hb : Bel W w1) : (∀ b o, b < W.heap.size → w1.cell? ⟨b, o, none⟩ = W.cell? ⟨b, o, none⟩) ∧ (∀ b o, b < W.heap.size → w1.frozen? ⟨b, o, none⟩ = W.frozen? ⟨b, o, none⟩) ∧ (∀ b, b < W.heap.size → b < w1.heap.size) :=
  ⟨fun b o h => hb.out.cell (p := ⟨b, o, none⟩) h, fun b o h => hb.out.frozen (p := ⟨b, o, none⟩) h, fun _ h => bel_lt hb h⟩

theorem toPoint_any (x y : Int) (w : World) :
    Calls Tryd.prog 59 #[pt x y] w fun e w' => e = .returned (pt x y) ∧ Bel w w' := by
  go_enter Tryd.func59, Tryd.ntmps59
  go_wp2
  exact bodyPost_ret (v := pt x y) (by simp [results, Tryd.results59, go_sem]) rfl ⟨rfl, bel_alloc (bel_alloc (bel_alloc (Bel.refl _) _) _) _⟩

theorem pointOk_any (x y : Int) (w : World) :
    Calls Tryd.prog 62 #[pt x y] w fun e w' => e = .returned (.bool (pok x y)) ∧ Bel w w' := by
  by_cases h1 : cok x = true
  · have hp : pok x y = cok y := by simp [pok, h1]
    rw [hp]; clear hp
    go_enter Tryd.func62, Tryd.ntmps62
    go_wp2_with (go_at_call 80; refine (coordOk_any _ _).mono ?_; rintro e w' ⟨rfl, rfl⟩)
    go_ret
    exact ⟨rfl, bel_alloc (Bel.refl _) _⟩
  · have h1 : cok x = false := by simpa using h1
    have hp : pok x y = false := by simp [pok, h1]
    rw [hp]; clear hp
    go_enter Tryd.func62, Tryd.ntmps62
    go_wp2_with (go_at_call 80; refine (coordOk_any _ _).mono ?_; rintro e w' ⟨rfl, rfl⟩)
    go_ret
    exact ⟨rfl, bel_alloc (Bel.refl _) _⟩

theorem specPointOk_any (x y : Int) (w : World) :
    Calls Tryd.prog 39 #[pt x y] w fun e w' => e = .returned (.bool (pok x y)) ∧ Bel w w' := by
  by_cases h1 : -10000000 ≤ x
  · by_cases h2 : x ≤ 10000000
    · by_cases h3 : -10000000 ≤ y
      · by_cases h4 : y ≤ 10000000
        · have hp : pok x y = true := by simp [pok, cok, h1, h2, h3, h4]
          rw [hp]; clear hp
          go_enter Tryd.func39, Tryd.ntmps39
          go_wp2
          go_ret
          exact ⟨rfl, bel_alloc (Bel.refl _) _⟩
        · have hp : pok x y = false := by simp [pok, cok, h4]
          rw [hp]; clear hp
          go_enter Tryd.func39, Tryd.ntmps39
          go_wp2
          go_ret
          exact ⟨rfl, bel_alloc (Bel.refl _) _⟩
      · have hp : pok x y = false := by simp [pok, cok, h3]
        rw [hp]; clear hp
        go_enter Tryd.func39, Tryd.ntmps39
        go_wp2
        go_ret
        exact ⟨rfl, bel_alloc (Bel.refl _) _⟩
    · have hp : pok x y = false := by simp [pok, cok, h2]
      rw [hp]; clear hp
      go_enter Tryd.func39, Tryd.ntmps39
      go_wp2
      go_ret
      exact ⟨rfl, bel_alloc (Bel.refl _) _⟩
  · have hp : pok x y = false := by simp [pok, cok, h1]
    rw [hp]; clear hp
    go_enter Tryd.func39, Tryd.ntmps39
    go_wp2
    go_ret
    exact ⟨rfl, bel_alloc (Bel.refl _) _⟩
end Go.Proofs.YtdjofkgmpbiofaaDoor

namespace Go.Proofs.YtdjofkgmpbiofaaDoor
open Go.RowKit

section
variable {P : Program} {l : List Oper} {Q : Exit → Act → World → Prop} {md : Region.Mode} {S : World → Prop}

/-- What a temporary holds is put into the list of them. -/
def putL (t : List Value) : Option Nat → Value → List Value
  | some d, v => t.set d v
  | none, _ => t
theorem put_list (t : List Value) (ds : List Deferred) (d : Option Nat) (v : Value) : Act.put ⟨t.toArray, ds⟩ d v = ⟨(putL t d v).toArray, ds⟩ := by
  cases d with
  | none => rfl
  | some d => simp [Act.put, putL]

/-- Number i is taken first: it yields a value in every world that meets S. -/
theorem tk (i : Nat) {oi : Oper} {v : Value} {fuel : Nat} {listed : Array Bool} {t t' : List Value} {ds : List Deferred} {w : World}
    (hS : S w) (h : wpAnyH P md l.toArray Q S fuel (listed.setIfInBounds i true) ⟨t'.toArray, ds⟩ w)
    (hi : l[i]? = some oi := by (dsimp only [List.getElem?_cons_succ, List.getElem?_cons_zero] <;> rfl))
    (hs : Region.noSelect l.toArray = true := by kernel_rfl) (hf : Region.free md l.toArray listed i = true := by kernel_rfl)
    (hr : (Region.ready md l.toArray listed).contains i = true := by kernel_rfl)
    (hg : Region.wanted oi (yielded l.toArray t.toArray) = true := by rfl)
    (hy : ∀ w, S w → (execOp (Act.eval ⟨t.toArray, ds⟩) oi).run P w = .ok (.value v) w := by (intro w hSw; (try dsimp only at hSw); go_simp; try with_reducible rfl))
    (ha : putL t oi.dst v = t' := by (dsimp only [putL, List.set_cons_zero, List.set_cons_succ] <;> rfl))
    (hQ : ∀ c a w, Q (.panic c) (a.put oi.dst v) w → Q (.panic c) a w := by exact fun _ _ _ h => h) : wpAnyH P md l.toArray Q S (fuel + 1) listed ⟨t.toArray, ds⟩ w :=
  wpAnyH_take ((List.getElem?_toArray ..).trans hi) hs hf hr hQ (Or.inl ⟨hg, hy⟩) hS (by rw [put_list, ha]; exact h)

/-- The same, with the value told. -/
theorem tkv (i : Nat) (v : Value) {oi : Oper} {fuel : Nat} {listed : Array Bool} {t t' : List Value} {ds : List Deferred} {w : World}
    (hS : S w) (h : wpAnyH P md l.toArray Q S fuel (listed.setIfInBounds i true) ⟨t'.toArray, ds⟩ w)
    (hi : l[i]? = some oi := by (dsimp only [List.getElem?_cons_succ, List.getElem?_cons_zero] <;> rfl))
    (hs : Region.noSelect l.toArray = true := by kernel_rfl) (hf : Region.free md l.toArray listed i = true := by kernel_rfl)
    (hr : (Region.ready md l.toArray listed).contains i = true := by kernel_rfl)
    (hg : Region.wanted oi (yielded l.toArray t.toArray) = true := by rfl)
    (hy : ∀ w, S w → (execOp (Act.eval ⟨t.toArray, ds⟩) oi).run P w = .ok (.value v) w := by (intro _ _; kernel_rfl))
    (ha : putL t oi.dst v = t' := by (dsimp only [putL, List.set_cons_zero, List.set_cons_succ] <;> rfl))
    (hQ : ∀ c a w, Q (.panic c) (a.put oi.dst v) w → Q (.panic c) a w := by exact fun _ _ _ h => h) : wpAnyH P md l.toArray Q S (fuel + 1) listed ⟨t.toArray, ds⟩ w :=
  wpAnyH_take ((List.getElem?_toArray ..).trans hi) hs hf hr hQ (Or.inl ⟨hg, hy⟩) hS (by rw [put_list, ha]; exact h)

/-- Number i is passed over: its guard says no. -/
theorem sk (i : Nat) {oi : Oper} {fuel : Nat} {listed : Array Bool} {t t' : List Value} {ds : List Deferred} {w : World}
    (hS : S w) (h : wpAnyH P md l.toArray Q S fuel (listed.setIfInBounds i true) ⟨t'.toArray, ds⟩ w)
    (hi : l[i]? = some oi := by (dsimp only [List.getElem?_cons_succ, List.getElem?_cons_zero] <;> rfl))
    (hs : Region.noSelect l.toArray = true := by kernel_rfl) (hf : Region.free md l.toArray listed i = true := by kernel_rfl)
    (hr : (Region.ready md l.toArray listed).contains i = true := by kernel_rfl)
    (hg : Region.wanted oi (yielded l.toArray t.toArray) = false := by rfl)
    (ha : putL t oi.dst undef = t' := by (dsimp only [putL, List.set_cons_zero, List.set_cons_succ] <;> rfl))
    (hQ : ∀ c a w, Q (.panic c) (a.put oi.dst undef) w → Q (.panic c) a w := by exact fun _ _ _ h => h) : wpAnyH P md l.toArray Q S (fuel + 1) listed ⟨t.toArray, ds⟩ w :=
  wpAnyH_take ((List.getElem?_toArray ..).trans hi) hs hf hr hQ (Or.inr ⟨hg, rfl⟩) hS (by rw [put_list, ha]; exact h)

/-- One alone is ready. -/
theorem rd1 (i : Nat) {o : Oper} {fuel : Nat} {listed : Array Bool} {a : Act} {w : World}
    (h : ∀ K' : Act → World → Prop, Shut (∀ a w, S w → (S w → wpAnyH P md l.toArray Q S fuel (listed.setIfInBounds i true) a w) → K' a w) → if Region.wanted o (yielded l.toArray a.tmps) = true then Oper.wp P o a w K' Q else K' (a.put o.dst undef) w)
    (ho : l[i]? = some o := by (dsimp only [List.getElem?_cons_succ, List.getElem?_cons_zero] <;> rfl))
    (hr : Region.ready md l.toArray listed = [i] := by kernel_rfl) : wpAnyH P md l.toArray Q S (fuel + 1) listed a w :=
  wpAnyH_ready hr (by simp) (AllReadyH.cons ((List.getElem?_toArray ..).trans ho) h AllReadyH.nil)

/-- Two are ready. -/
theorem rd2 (i j : Nat) {o p : Oper} {fuel : Nat} {listed : Array Bool} {a : Act} {w : World}
    (h : ∀ K' : Act → World → Prop, Shut (∀ a w, S w → (S w → wpAnyH P md l.toArray Q S fuel (listed.setIfInBounds i true) a w) → K' a w) → if Region.wanted o (yielded l.toArray a.tmps) = true then Oper.wp P o a w K' Q else K' (a.put o.dst undef) w)
    (h' : ∀ K' : Act → World → Prop, Shut (∀ a w, S w → (S w → wpAnyH P md l.toArray Q S fuel (listed.setIfInBounds j true) a w) → K' a w) → if Region.wanted p (yielded l.toArray a.tmps) = true then Oper.wp P p a w K' Q else K' (a.put p.dst undef) w)
    (ho : l[i]? = some o := by (dsimp only [List.getElem?_cons_succ, List.getElem?_cons_zero] <;> rfl))
    (hp : l[j]? = some p := by (dsimp only [List.getElem?_cons_succ, List.getElem?_cons_zero] <;> rfl))
    (hr : Region.ready md l.toArray listed = [i, j] := by kernel_rfl) : wpAnyH P md l.toArray Q S (fuel + 1) listed a w :=
  wpAnyH_ready hr (by simp) (AllReadyH.cons ((List.getElem?_toArray ..).trans ho) h (AllReadyH.cons ((List.getElem?_toArray ..).trans hp) h' AllReadyH.nil))

end
end Go.Proofs.YtdjofkgmpbiofaaDoor
