/-
  The plain mathematics of chapter 1: whole roots, their uniqueness, one step from above, one step of the search by halves. No Go in sight; no condition.
  Contracts of the small functions of chapter 1 (a point can be; the whole root, in the program and in its model), each for every argument.
  Operations of a region that draws its order, taken in few words: the operation itself is read off the region by its number.
  Contracts of what a Key and a Value may be, in the program and in its model: for every text.
  Data with depth in memory: a slice whose elements are structs of numbers, texts and slices. Which blocks it lies in; what does not touch them does not turn it.
  Tags that can be: plain facts, with no program in them.
  Maps that can be: plain facts, with no program in them.
-/
import Derived.Test.YtiagdabikbjbiaaRows
import Derived.WalkKit
import Derived.WalkSpells
import Derived.Lib.Strings
import Derived.Lib.Slices
import Derived.Lib.Small
import Derived.Lib.Walk
import Derived.Lib.BitFns
import Derived.Lib.ItoaNum
import Derived.Below
import Derived.Deep.RegionHeld3
import Derived.WalkLawsBesides
import Derived.Deep.QuietTactic
import Derived.BigQuiet
namespace Go.Proofs.Ytiagdabikbjbiaa
/-- r is the whole root of n. -/
def IsRoot (n r : Int) : Prop := 0 ≤ r ∧ r * r ≤ n ∧ n < (r + 1) * (r + 1)

theorem sq_lt {a b : Int} (ha : 0 ≤ a) (h : a * a < b * b) (hb : 0 ≤ b) : a < b := by
  rcases Int.lt_or_le a b with h1 | h1
  · exact h1
  · have := Int.mul_le_mul h1 h1 hb ha; omega

theorem isRoot_unique {n a b : Int} (ha : IsRoot n a) (hb : IsRoot n b) : a = b := by
  obtain ⟨a0, a1, a2⟩ := ha
  obtain ⟨b0, b1, b2⟩ := hb
  have h1 : a < b + 1 := sq_lt a0 (by omega) (by omega)
  have h2 : b < a + 1 := sq_lt b0 (by omega) (by omega)
  omega

/-- One step of Newton's from above stays above. -/
theorem newton_above {n r q : Int} (hr : 0 < r) (hq0 : 0 ≤ q) (hq : n < r * (q + 1)) (x : Int) (hx : r + q + 1 ≤ 2 * (x + 1)) : n < (x + 1) * (x + 1) := by
  -- (r + (q+1))^2 ≥ 4 r (q+1)
  have h1 : 0 ≤ (r - (q + 1)) * (r - (q + 1)) := by
    rcases Int.le_total 0 (r - (q + 1)) with h | h
    · exact Int.mul_nonneg h h
    · exact Int.mul_nonneg_of_nonpos_of_nonpos h h
  have h2 : (r + (q + 1)) * (r + (q + 1)) ≤ (2 * (x + 1)) * (2 * (x + 1)) := by
    have h : r + (q + 1) ≤ 2 * (x + 1) := by omega
    exact Int.mul_le_mul h h (by omega) (by omega)
  have e1 : (r - (q + 1)) * (r - (q + 1)) = (r + (q + 1)) * (r + (q + 1)) - 4 * (r * (q + 1)) := by
    simp only [Int.mul_add, Int.add_mul, Int.sub_mul, Int.mul_sub, Int.mul_one, Int.one_mul, Int.mul_comm q r]; omega
  have e2 : (2 * (x + 1)) * (2 * (x + 1)) = 4 * ((x + 1) * (x + 1)) := by
    simp only [Int.mul_add, Int.add_mul, Int.mul_one, Int.one_mul, Int.mul_assoc, Int.mul_left_comm x 2 ]; omega
  omega

theorem div_facts (n r : Int) (hn : 0 ≤ n) (hr : 0 < r) : 0 ≤ n / r ∧ r * (n / r) ≤ n ∧ n < r * (n / r + 1) := by
  refine ⟨Int.ediv_nonneg hn (by omega), ?_, ?_⟩
  · exact Int.mul_ediv_self_le (by omega)
  · have := Int.lt_mul_ediv_self_add (x := n) hr; rw [Int.mul_add]; omega

/-- What one round knows of 'n / r'. -/
theorem newton_q {n r : Int} (hr : 0 < r) (hn : 0 < n) (hab : n < (r + 1) * (r + 1)) : 0 ≤ n / r ∧ n / r ≤ r + 2 ∧ 2 ≤ r + n / r := by
  obtain ⟨q0, q1, q2⟩ := div_facts n r (by omega) hr
  refine ⟨q0, ?_, ?_⟩
  · rcases Int.lt_or_le (n / r) (r + 3) with h | h
    · omega
    · have h1 : r * (r + 3) ≤ r * (n / r) := Int.mul_le_mul_of_nonneg_left h (by omega)
      have e1 : r * (r + 3) = r * r + 3 * r := by rw [Int.mul_add]; omega
      have e2 : (r + 1) * (r + 1) = r * r + 2 * r + 1 := by simp only [Int.mul_add, Int.add_mul, Int.mul_one, Int.one_mul]; omega
      omega
  · by_cases h : r = 1
    · subst h; simp; omega
    · omega

theorem newton_stop {n r : Int} (hr : 0 < r) (hn : 0 < n) (hab : n < (r + 1) * (r + 1)) (h : r ≤ (r + n / r) / 2) : IsRoot n r := by
  obtain ⟨q0, q1, q2⟩ := div_facts n r (by omega) hr
  refine ⟨by omega, ?_, hab⟩
  have h1 : r ≤ n / r := by omega
  have h2 : r * r ≤ r * (n / r) := Int.mul_le_mul_of_nonneg_left h1 (by omega)
  omega

theorem newton_go {n r : Int} (hr : 0 < r) (hn : 0 < n) : n < ((r + n / r) / 2 + 1) * ((r + n / r) / 2 + 1) := by
  obtain ⟨q0, q1, q2⟩ := div_facts n r (by omega) hr
  exact newton_above hr q0 q2 _ (by omega)

/-- The binary search's step. -/
theorem half_low {low high : Int} (h0 : 0 ≤ low) (h : low < high) (hh : high ≤ 3037000499) : low < (low + high + 1) / 2 ∧ (low + high + 1) / 2 ≤ high ∧ 0 ≤ ((low + high + 1) / 2) * ((low + high + 1) / 2) ∧ ((low + high + 1) / 2) * ((low + high + 1) / 2) ≤ 9223372030926249001 := by
  have h1 : 0 ≤ (low + high + 1) / 2 := by omega
  have h2 : (low + high + 1) / 2 ≤ 3037000499 := by omega
  refine ⟨by omega, by omega, Int.mul_nonneg h1 h1, ?_⟩
  have := Int.mul_le_mul h2 h2 h1 (by decide)
  omega
end Go.Proofs.Ytiagdabikbjbiaa

namespace Go.Proofs.Ytiagdabikbjbiaa
open Go.RowKit

/-- A coordinate can be. -/
def cok (n : Int) : Bool := decide (-10000000 ≤ n) && decide (n ≤ 10000000)
/-- A point can be. -/
def pok (x y : Int) : Bool := cok x && cok y

theorem cok_iff {n : Int} : cok n = true ↔ -10000000 ≤ n ∧ n ≤ 10000000 := by simp [cok]
theorem cok_not {n : Int} : cok n = false ↔ n < -10000000 ∨ 10000000 < n := by simp only [cok, Bool.and_eq_false_iff, decide_eq_false_iff_not]; omega

/-- A point as a value. -/
abbrev pt (x y : Int) : Value := .agg #[.int .i64 x, .int .i64 y]

theorem coordOk_any (n : Int) (w : World) :
    Calls Try.prog 88 #[.int .i64 n] w fun e w' => e = .returned (.bool (cok n)) ∧ w' = w := by
  by_cases h1 : -10000000 ≤ n
  · by_cases h2 : n ≤ 10000000
    · have h : cok n = true := cok_iff.2 ⟨h1, h2⟩
      rw [h]; clear h
      go_enter Try.func88, Try.ntmps88
      go_wp2
      go_ret
      exact ⟨rfl, rfl⟩
    · have h : cok n = false := cok_not.2 (by omega)
      rw [h]; clear h
      go_enter Try.func88, Try.ntmps88
      go_wp2
      go_ret
      exact ⟨rfl, rfl⟩
  · have h : cok n = false := cok_not.2 (by omega)
    rw [h]; clear h
    go_enter Try.func88, Try.ntmps88
    go_wp2
    go_ret
    exact ⟨rfl, rfl⟩

/-- Of what was there nothing has turned. -/
def Bel (w w' : World) : Prop := Below w.heap.size w w'
theorem Bel.out {w w' : World} (h : Bel w w') : Below w.heap.size w w' := h
theorem Bel.refl (w : World) : Bel w w := Below.refl _ _
theorem Bel.drew {w a : World} (h : Bel w a) : Bel w a.drew := Below.drew h
/-- What a call made on, behind what was made. -/
theorem bel_step {w a b : World} (h : Bel w a) (k : Bel a b) : Bel w b := h.trans (k.out.mono h.out.size)
theorem bel_then {w a b : World} (k : Bel a b) (h : Bel w a) : Bel w b := bel_step h k
theorem bel_alloc {w a : World} (h : Bel w a) (o : Obj) : Bel w (a.alloc o) := Below.alloc h h.out.size o
theorem bel_set {w a : World} (h : Bel w a) {p : Addr} (hp : w.heap.size ≤ p.block) (u : Value) : Bel w (a.setCell p u) := Below.setCell h hp u
theorem bel_set2 {w a b : World} (h : Bel w a) (hb : Bel w b) {o : Nat} {s : Option Nat} (u : Value) : Bel w (a.setCell ⟨b.heap.size, o, s⟩ u) := bel_set h hb.out.size u
theorem bel_set3 {w a b : World} (h : Bel w a) (hb : Bel w b) {o : Nat} {s : Option Nat} (u : Value) : Bel w (a.setCell ⟨b.heap.size + 1, o, s⟩ u) := bel_set h (Nat.le_trans hb.out.size (Nat.le_succ _)) u
theorem bel_lt {w a : World} (h : Bel w a) {n : Nat} (hn : n < w.heap.size) : n < a.heap.size := Nat.lt_of_lt_of_le hn h.out.size
/-- All old cells, all old marks read as before. -/
theorem bcell {W w1 : World} (hb : Bel W w1) : (∀ b o, b < W.heap.size → w1.cell? ⟨b, o, none⟩ = W.cell? ⟨b, o, none⟩) ∧ (∀ b o, b < W.heap.size → w1.frozen? ⟨b, o, none⟩ = W.frozen? ⟨b, o, none⟩) ∧ (∀ b, b < W.heap.size → b < w1.heap.size) :=
  ⟨fun b o h => hb.out.cell (p := ⟨b, o, none⟩) h, fun b o h => hb.out.frozen (p := ⟨b, o, none⟩) h, fun _ h => bel_lt hb h⟩

theorem toPoint_any (x y : Int) (w : World) :
    Calls Try.prog 67 #[pt x y] w fun e w' => e = .returned (pt x y) ∧ Bel w w' := by
  go_enter Try.func67, Try.ntmps67
  go_wp2
  exact bodyPost_ret (v := pt x y) (by simp [results, Try.results67, go_sem]) rfl ⟨rfl, bel_alloc (bel_alloc (bel_alloc (Bel.refl _) _) _) _⟩

theorem pointOk_any (x y : Int) (w : World) :
    Calls Try.prog 81 #[pt x y] w fun e w' => e = .returned (.bool (pok x y)) ∧ Bel w w' := by
  by_cases h1 : cok x = true
  · have hp : pok x y = cok y := by simp [pok, h1]
    rw [hp]; clear hp
    go_enter Try.func81, Try.ntmps81
    go_wp2_with (go_at_call 88; refine (coordOk_any _ _).mono ?_; rintro e w' ⟨rfl, rfl⟩)
    go_ret
    exact ⟨rfl, bel_alloc (Bel.refl _) _⟩
  · have h1 : cok x = false := by simpa using h1
    have hp : pok x y = false := by simp [pok, h1]
    rw [hp]; clear hp
    go_enter Try.func81, Try.ntmps81
    go_wp2_with (go_at_call 88; refine (coordOk_any _ _).mono ?_; rintro e w' ⟨rfl, rfl⟩)
    go_ret
    exact ⟨rfl, bel_alloc (Bel.refl _) _⟩

theorem specPointOk_any (x y : Int) (w : World) :
    Calls Try.prog 49 #[pt x y] w fun e w' => e = .returned (.bool (pok x y)) ∧ Bel w w' := by
  by_cases h1 : -10000000 ≤ x
  · by_cases h2 : x ≤ 10000000
    · by_cases h3 : -10000000 ≤ y
      · by_cases h4 : y ≤ 10000000
        · have hp : pok x y = true := by simp [pok, cok, h1, h2, h3, h4]
          rw [hp]; clear hp
          go_enter Try.func49, Try.ntmps49
          go_wp2
          go_ret
          exact ⟨rfl, bel_alloc (Bel.refl _) _⟩
        · have hp : pok x y = false := by simp [pok, cok, h4]
          rw [hp]; clear hp
          go_enter Try.func49, Try.ntmps49
          go_wp2
          go_ret
          exact ⟨rfl, bel_alloc (Bel.refl _) _⟩
      · have hp : pok x y = false := by simp [pok, cok, h3]
        rw [hp]; clear hp
        go_enter Try.func49, Try.ntmps49
        go_wp2
        go_ret
        exact ⟨rfl, bel_alloc (Bel.refl _) _⟩
    · have hp : pok x y = false := by simp [pok, cok, h2]
      rw [hp]; clear hp
      go_enter Try.func49, Try.ntmps49
      go_wp2
      go_ret
      exact ⟨rfl, bel_alloc (Bel.refl _) _⟩
  · have hp : pok x y = false := by simp [pok, cok, h1]
    rw [hp]; clear hp
    go_enter Try.func49, Try.ntmps49
    go_wp2
    go_ret
    exact ⟨rfl, bel_alloc (Bel.refl _) _⟩
end Go.Proofs.Ytiagdabikbjbiaa

namespace Go.Proofs.Ytiagdabikbjbiaa
open Go.RowKit

section
variable {P : Program} {l : List Oper} {Q : Exit → Act → World → Prop} {md : Region.Mode} {S : World → Prop}

/-- What a temporary holds is put into the list of them. -/
def putL (t : List Value) : Option Nat → Value → List Value
  | some d, v => t.set d v
  | none, _ => t
theorem put_list (t : List Value) (ds : List Deferred) (d : Option Nat) (v : Value) : Act.put ⟨t.toArray, ds⟩ d v = ⟨(putL t d v).toArray, ds⟩ := by
  cases d with
  | none => rfl
  | some d => simp [Act.put, putL]

/-- Number i is taken first: it yields a value in every world that meets S. -/
theorem tk (i : Nat) {oi : Oper} {v : Value} {fuel : Nat} {listed : Array Bool} {t t' : List Value} {ds : List Deferred} {w : World}
    (hS : S w) (h : wpAnyH P md l.toArray Q S fuel (listed.setIfInBounds i true) ⟨t'.toArray, ds⟩ w)
    (hi : l[i]? = some oi := by (dsimp only [List.getElem?_cons_succ, List.getElem?_cons_zero] <;> rfl))
    (hs : Region.noSelect l.toArray = true := by kernel_rfl) (hf : Region.free md l.toArray listed i = true := by kernel_rfl)
    (hr : (Region.ready md l.toArray listed).contains i = true := by kernel_rfl)
    (hg : Region.wanted oi (yielded l.toArray t.toArray) = true := by rfl)
    (hy : ∀ w, S w → (execOp (Act.eval ⟨t.toArray, ds⟩) oi).run P w = .ok (.value v) w := by (intro w hSw; (try dsimp only at hSw); go_simp; try with_reducible rfl))
    (ha : putL t oi.dst v = t' := by (dsimp only [putL, List.set_cons_zero, List.set_cons_succ] <;> rfl))
    (hQ : ∀ c a w, Q (.panic c) (a.put oi.dst v) w → Q (.panic c) a w := by exact fun _ _ _ h => h) : wpAnyH P md l.toArray Q S (fuel + 1) listed ⟨t.toArray, ds⟩ w :=
  wpAnyH_take ((List.getElem?_toArray ..).trans hi) hs hf hr hQ (Or.inl ⟨hg, hy⟩) hS (by rw [put_list, ha]; exact h)

/-- The same, with the value told. -/
theorem tkv (i : Nat) (v : Value) {oi : Oper} {fuel : Nat} {listed : Array Bool} {t t' : List Value} {ds : List Deferred} {w : World}
    (hS : S w) (h : wpAnyH P md l.toArray Q S fuel (listed.setIfInBounds i true) ⟨t'.toArray, ds⟩ w)
    (hi : l[i]? = some oi := by (dsimp only [List.getElem?_cons_succ, List.getElem?_cons_zero] <;> rfl))
    (hs : Region.noSelect l.toArray = true := by kernel_rfl) (hf : Region.free md l.toArray listed i = true := by kernel_rfl)
    (hr : (Region.ready md l.toArray listed).contains i = true := by kernel_rfl)
    (hg : Region.wanted oi (yielded l.toArray t.toArray) = true := by rfl)
    (hy : ∀ w, S w → (execOp (Act.eval ⟨t.toArray, ds⟩) oi).run P w = .ok (.value v) w := by (intro _ _; kernel_rfl))
    (ha : putL t oi.dst v = t' := by (dsimp only [putL, List.set_cons_zero, List.set_cons_succ] <;> rfl))
    (hQ : ∀ c a w, Q (.panic c) (a.put oi.dst v) w → Q (.panic c) a w := by exact fun _ _ _ h => h) : wpAnyH P md l.toArray Q S (fuel + 1) listed ⟨t.toArray, ds⟩ w :=
  wpAnyH_take ((List.getElem?_toArray ..).trans hi) hs hf hr hQ (Or.inl ⟨hg, hy⟩) hS (by rw [put_list, ha]; exact h)

/-- Number i is passed over: its guard says no. -/
theorem sk (i : Nat) {oi : Oper} {fuel : Nat} {listed : Array Bool} {t t' : List Value} {ds : List Deferred} {w : World}
    (hS : S w) (h : wpAnyH P md l.toArray Q S fuel (listed.setIfInBounds i true) ⟨t'.toArray, ds⟩ w)
    (hi : l[i]? = some oi := by (dsimp only [List.getElem?_cons_succ, List.getElem?_cons_zero] <;> rfl))
    (hs : Region.noSelect l.toArray = true := by kernel_rfl) (hf : Region.free md l.toArray listed i = true := by kernel_rfl)
    (hr : (Region.ready md l.toArray listed).contains i = true := by kernel_rfl)
    (hg : Region.wanted oi (yielded l.toArray t.toArray) = false := by rfl)
    (ha : putL t oi.dst undef = t' := by (dsimp only [putL, List.set_cons_zero, List.set_cons_succ] <;> rfl))
    (hQ : ∀ c a w, Q (.panic c) (a.put oi.dst undef) w → Q (.panic c) a w := by exact fun _ _ _ h => h) : wpAnyH P md l.toArray Q S (fuel + 1) listed ⟨t.toArray, ds⟩ w :=
  wpAnyH_take ((List.getElem?_toArray ..).trans hi) hs hf hr hQ (Or.inr ⟨hg, rfl⟩) hS (by rw [put_list, ha]; exact h)

/-- One alone is ready. -/
theorem rd1 (i : Nat) {o : Oper} {fuel : Nat} {listed : Array Bool} {a : Act} {w : World}
    (h : ∀ K' : Act → World → Prop, Shut (∀ a w, S w → (S w → wpAnyH P md l.toArray Q S fuel (listed.setIfInBounds i true) a w) → K' a w) → if Region.wanted o (yielded l.toArray a.tmps) = true then Oper.wp P o a w K' Q else K' (a.put o.dst undef) w)
    (ho : l[i]? = some o := by (dsimp only [List.getElem?_cons_succ, List.getElem?_cons_zero] <;> rfl))
    (hr : Region.ready md l.toArray listed = [i] := by kernel_rfl) : wpAnyH P md l.toArray Q S (fuel + 1) listed a w :=
  wpAnyH_ready hr (by simp) (AllReadyH.cons ((List.getElem?_toArray ..).trans ho) h AllReadyH.nil)

/-- Two are ready. -/
theorem rd2 (i j : Nat) {o p : Oper} {fuel : Nat} {listed : Array Bool} {a : Act} {w : World}
    (h : ∀ K' : Act → World → Prop, Shut (∀ a w, S w → (S w → wpAnyH P md l.toArray Q S fuel (listed.setIfInBounds i true) a w) → K' a w) → if Region.wanted o (yielded l.toArray a.tmps) = true then Oper.wp P o a w K' Q else K' (a.put o.dst undef) w)
    (h' : ∀ K' : Act → World → Prop, Shut (∀ a w, S w → (S w → wpAnyH P md l.toArray Q S fuel (listed.setIfInBounds j true) a w) → K' a w) → if Region.wanted p (yielded l.toArray a.tmps) = true then Oper.wp P p a w K' Q else K' (a.put p.dst undef) w)
    (ho : l[i]? = some o := by (dsimp only [List.getElem?_cons_succ, List.getElem?_cons_zero] <;> rfl))
    (hp : l[j]? = some p := by (dsimp only [List.getElem?_cons_succ, List.getElem?_cons_zero] <;> rfl))
    (hr : Region.ready md l.toArray listed = [i, j] := by kernel_rfl) : wpAnyH P md l.toArray Q S (fuel + 1) listed a w :=
  wpAnyH_ready hr (by simp) (AllReadyH.cons ((List.getElem?_toArray ..).trans ho) h (AllReadyH.cons ((List.getElem?_toArray ..).trans hp) h' AllReadyH.nil))

end
end Go.Proofs.Ytiagdabikbjbiaa

namespace Go.Proofs.Ytiagdabikbjbiaa
open Go.RowKit

/-- A byte of a Key. -/
def wb (n : Int) : Bool := decide (97 ≤ n ∧ n ≤ 122 ∨ 48 ≤ n ∧ n ≤ 57 ∨ n = 58 ∨ n = 95)
/-- A byte of a Value. -/
def vb (n : Int) : Bool := decide (32 ≤ n ∧ n ≤ 126)
/-- The byte at a place, as a number. -/
def byteAt (s : ByteArray) (i : Nat) : Int := ((s.data.toList.getD i 0).toNat : Int)
theorem byteAt_eq {s : ByteArray} {i : Nat} (h : i < s.size) : (s[i].toNat : Int) = byteAt s i := by
  have h' : i < s.data.toList.length := by simpa using h
  unfold byteAt
  rw [List.getD_eq_getElem?_getD, List.getElem?_eq_getElem h']
  rfl
theorem byteAt_bd (s : ByteArray) (i : Nat) : 0 ≤ byteAt s i ∧ byteAt s i ≤ 255 := by
  unfold byteAt
  have := (s.data.toList.getD i 0).toNat_lt
  omega
/-- A text of at least 1 and at most m bytes, each as p says. -/
def textB (p : Int → Bool) (m : Nat) (s : ByteArray) : Bool := decide (1 ≤ s.size ∧ s.size ≤ m ∧ ∀ i, i < s.size → p (byteAt s i) = true)
theorem textB_not {p : Int → Bool} {m : Nat} {s : ByteArray} (h : ¬ (1 ≤ s.size ∧ s.size ≤ m)) : textB p m s = false := by
  simp only [textB, decide_eq_false_iff_not]; intro hh; exact h ⟨hh.1, hh.2.1⟩
theorem textB_at {p : Int → Bool} {m : Nat} {s : ByteArray} {i : Nat} (h : i < s.size) (hp : p (byteAt s i) = false) : textB p m s = false := by
  simp only [textB, decide_eq_false_iff_not]; intro hh; have := hh.2.2 i h; rw [hp] at this; cases this
theorem textB_true {p : Int → Bool} {m : Nat} {s : ByteArray} (h : 1 ≤ s.size) (h' : s.size ≤ m) (ha : ∀ i, i < s.size → p (byteAt s i) = true) : textB p m s = true := by
  simp only [textB, decide_eq_true_eq]; exact ⟨h, h', ha⟩
theorem ret_bl {a b : Bool} (h : a = b) : Ending.returned (.bool a) = .returned (.bool b) := by rw [h]
def wordB (s : ByteArray) : Bool := textB wb 40 s
def valB (s : ByteArray) : Bool := textB vb 100 s

end Go.Proofs.Ytiagdabikbjbiaa

namespace Go.Proofs.Ytiagdabikbjbiaa
open Go.RowKit

/-- An element of a slice: in this world, in this block from this cell on, it reads as this datum, and leads on into these blocks. -/
abbrev Elem (α : Type) := World → Nat → Nat → α → List Nat → Prop

/-- The slice reads as this list and lies in these blocks. q: how many cells an element has. -/
def Sl {α : Type} (q : Nat) (E : Elem α) (w : World) (a : Option Addr) (l : List α) (bs : List Nat) : Prop :=
  (l = [] ∧ bs = []) ∨ ∃ b off, ∃ f : Nat → List Nat, a = some ⟨b, off, none⟩ ∧ b < w.heap.size ∧ bs = b :: (List.range l.length).flatMap f ∧
    ∀ i (h : i < l.length), E w b (off + i * q) l[i] (f i)

/-- These blocks are in both worlds, with the same cells and marks. -/
def Alike (w w' : World) (bs : List Nat) : Prop :=
  ∀ b ∈ bs, b < w'.heap.size ∧ (∀ o, w'.cell? ⟨b, o, none⟩ = w.cell? ⟨b, o, none⟩) ∧ ∀ o, w'.frozen? ⟨b, o, none⟩ = w.frozen? ⟨b, o, none⟩

/-- An element hangs on its own q cells and on the blocks that it leads to, and these are there. -/
structure Stays {α : Type} (q : Nat) (E : Elem α) : Prop where
  alike : ∀ {w w' : World} {b o : Nat} {d : α} {bs : List Nat}, E w b o d bs → (∀ j, j < q → w'.cell? ⟨b, o + j, none⟩ = w.cell? ⟨b, o + j, none⟩) → Alike w w' bs → E w' b o d bs
  lt : ∀ {w : World} {b o : Nat} {d : α} {bs : List Nat}, E w b o d bs → ∀ x ∈ bs, x < w.heap.size

theorem Alike.sub {w w' : World} {bs cs : List Nat} (h : Alike w w' bs) (hs : ∀ x ∈ cs, x ∈ bs) : Alike w w' cs := fun b hb => h b (hs b hb)
theorem Alike.bel {w w' : World} (h : Bel w w') {bs : List Nat} (hs : ∀ x ∈ bs, x < w.heap.size) : Alike w w' bs :=
  fun b hb => ⟨bel_lt h (hs b hb), fun o => h.out.cell (p := ⟨b, o, none⟩) (hs b hb), fun o => h.out.frozen (p := ⟨b, o, none⟩) (hs b hb)⟩
theorem same_cell {w w' : World} {b o q : Nat} (h : ∀ j, j < q → w'.cell? ⟨b, o + j, none⟩ = w.cell? ⟨b, o + j, none⟩) (j : Nat) (hj : j < q) {v : Value} (hc : w.cell? ⟨b, o + j, none⟩ = some v) : w'.cell? ⟨b, o + j, none⟩ = some v := by
  rw [h j hj]; exact hc

theorem Sl.nil {α : Type} {q : Nat} {E : Elem α} {w : World} {a : Option Addr} : Sl q E w a [] [] := .inl ⟨rfl, rfl⟩

theorem Sl.lt {α : Type} {q : Nat} {E : Elem α} (hE : Stays q E) {w : World} {a : Option Addr} {l : List α} {bs : List Nat} (h : Sl q E w a l bs) : ∀ x ∈ bs, x < w.heap.size := by
  rcases h with ⟨_, rfl⟩ | ⟨b, off, f, _, hb, rfl, hx⟩
  · intro x hx; cases hx
  · intro x hm
    rcases List.mem_cons.1 hm with rfl | hm
    · exact hb
    · obtain ⟨i, hi, hxi⟩ := List.mem_flatMap.1 hm
      exact hE.lt (hx i (List.mem_range.1 hi)) x hxi

theorem Sl.alike {α : Type} {q : Nat} {E : Elem α} (hE : Stays q E) {w w' : World} {a : Option Addr} {l : List α} {bs : List Nat} (h : Sl q E w a l bs) (hA : Alike w w' bs) : Sl q E w' a l bs := by
  rcases h with h | ⟨b, off, f, ha, hb, rfl, hx⟩
  · exact .inl h
  · exact .inr ⟨b, off, f, ha, (hA b (by simp)).1, rfl, fun i hi => hE.alike (hx i hi) (fun j _ => (hA b (by simp)).2.1 _)
      (hA.sub fun x hm => List.mem_cons_of_mem _ (List.mem_flatMap.2 ⟨i, List.mem_range.2 hi, hm⟩))⟩

theorem Sl.bel {α : Type} {q : Nat} {E : Elem α} (hE : Stays q E) {w w' : World} {a : Option Addr} {l : List α} {bs : List Nat} (h : Sl q E w a l bs) (hb : Bel w w') : Sl q E w' a l bs :=
  h.alike hE (Alike.bel hb (h.lt hE))

/-- What a slice that is not empty is. -/
theorem Sl.out {α : Type} {q : Nat} {E : Elem α} {w : World} {a : Option Addr} {l : List α} {bs : List Nat} (h : Sl q E w a l bs) {k : Nat} (hk : k < l.length) :
    ∃ b off, ∃ f : Nat → List Nat, a = some ⟨b, off, none⟩ ∧ b < w.heap.size ∧ ∀ i (h : i < l.length), E w b (off + i * q) l[i] (f i) := by
  rcases h with ⟨rfl, _⟩ | ⟨b, off, f, ha, hb, _, hx⟩
  · simp at hk
  · exact ⟨b, off, f, ha, hb, hx⟩

/-- A number within int64. -/
def In64 (x : Int) : Prop := -9223372036854775808 ≤ x ∧ x ≤ 9223372036854775807

/-- A number. -/
def IntE : Elem Int := fun w b o d bs => bs = [] ∧ In64 d ∧ w.cell? ⟨b, o, none⟩ = some (.int .i64 d)
theorem intE : Stays 1 IntE := ⟨fun ⟨h1, h2, h3⟩ hc _ => ⟨h1, h2, same_cell hc 0 (by decide) h3⟩, fun ⟨h1, _⟩ x hx => by subst h1; cases hx⟩

/-- Tag, Part, Node, Way, Area, and the map, as data. -/
structure TagD where
  k : ByteArray
  v : ByteArray
structure PartD where
  way : Int
  inner : Bool
structure NodeD where
  id : Int
  x : Int
  y : Int
  tags : List TagD
structure WayD where
  id : Int
  nodes : List Int
  tags : List TagD
structure AreaD where
  id : Int
  parts : List PartD
  tags : List TagD
structure MapD where
  nodes : List NodeD
  ways : List WayD
  areas : List AreaD

def TagE : Elem TagD := fun w b o d bs => bs = [] ∧ d.k.size ≤ maxLen ∧ d.v.size ≤ maxLen ∧ w.cell? ⟨b, o, none⟩ = some (.string d.k) ∧ w.cell? ⟨b, o + 1, none⟩ = some (.string d.v)
theorem tagE : Stays 2 TagE := ⟨fun ⟨h1, h2, h3, h4, h5⟩ hc _ => ⟨h1, h2, h3, same_cell hc 0 (by decide) h4, same_cell hc 1 (by decide) h5⟩, fun ⟨h1, _⟩ x hx => by subst h1; cases hx⟩
abbrev Tags := Sl 2 TagE

def PartE : Elem PartD := fun w b o d bs => bs = [] ∧ In64 d.way ∧ w.cell? ⟨b, o, none⟩ = some (.int .i64 d.way) ∧ w.cell? ⟨b, o + 1, none⟩ = some (.bool d.inner)
theorem partE : Stays 2 PartE := ⟨fun ⟨h1, h2, h4, h5⟩ hc _ => ⟨h1, h2, same_cell hc 0 (by decide) h4, same_cell hc 1 (by decide) h5⟩, fun ⟨h1, _⟩ x hx => by subst h1; cases hx⟩
abbrev Parts := Sl 2 PartE
/-- A point. -/
structure PtD where
  x : Int
  y : Int
def PtE : Elem PtD := fun w b o d bs => bs = [] ∧ In64 d.x ∧ In64 d.y ∧ w.cell? ⟨b, o, none⟩ = some (.int .i64 d.x) ∧ w.cell? ⟨b, o + 1, none⟩ = some (.int .i64 d.y)
theorem ptE : Stays 2 PtE := ⟨fun ⟨h1, h2, h3, h4, h5⟩ hc _ => ⟨h1, h2, h3, same_cell hc 0 (by decide) h4, same_cell hc 1 (by decide) h5⟩, fun ⟨h1, _⟩ x hx => by subst h1; cases hx⟩
abbrev PtL := Sl 2 PtE
abbrev Ints := Sl 1 IntE

def NodeE : Elem NodeD := fun w b o d bs => In64 d.id ∧ In64 d.x ∧ In64 d.y ∧ w.cell? ⟨b, o, none⟩ = some (.int .i64 d.id) ∧ w.cell? ⟨b, o + 1, none⟩ = some (.int .i64 d.x) ∧ w.cell? ⟨b, o + 2, none⟩ = some (.int .i64 d.y) ∧
  ∃ a c, d.tags.length ≤ maxLen ∧ w.cell? ⟨b, o + 3, none⟩ = some (.slice a d.tags.length c) ∧ Tags w a d.tags bs
theorem nodeE : Stays 4 NodeE := ⟨fun ⟨h1, h2, h3, h4, h5, h6, a, c, hl, h7, h8⟩ hc hA => ⟨h1, h2, h3, same_cell hc 0 (by decide) h4, same_cell hc 1 (by decide) h5, same_cell hc 2 (by decide) h6, a, c, hl, same_cell hc 3 (by decide) h7, h8.alike tagE hA⟩,
  fun ⟨_, _, _, _, _, _, _, _, _, _, h8⟩ => h8.lt tagE⟩
abbrev Nodes := Sl 4 NodeE

def WayE : Elem WayD := fun w b o d bs => In64 d.id ∧ w.cell? ⟨b, o, none⟩ = some (.int .i64 d.id) ∧
  ∃ a c a' c' bs1 bs2, bs = bs1 ++ bs2 ∧ d.nodes.length ≤ maxLen ∧ d.tags.length ≤ maxLen ∧ w.cell? ⟨b, o + 1, none⟩ = some (.slice a d.nodes.length c) ∧ Ints w a d.nodes bs1 ∧ w.cell? ⟨b, o + 2, none⟩ = some (.slice a' d.tags.length c') ∧ Tags w a' d.tags bs2
theorem wayE : Stays 3 WayE := ⟨fun ⟨h1, h2, a, c, a', c', bs1, bs2, e, hl1, hl2, h3, h4, h5, h6⟩ hc hA => by
    subst e
    exact ⟨h1, same_cell hc 0 (by decide) h2, a, c, a', c', bs1, bs2, rfl, hl1, hl2, same_cell hc 1 (by decide) h3, h4.alike intE (hA.sub fun _ hx => by simp [hx]), same_cell hc 2 (by decide) h5, h6.alike tagE (hA.sub fun _ hx => by simp [hx])⟩,
  fun ⟨_, _, _, _, _, _, bs1, bs2, e, _, _, _, h4, _, h6⟩ x hx => by
    subst e
    rcases List.mem_append.1 hx with hx | hx
    · exact h4.lt intE x hx
    · exact h6.lt tagE x hx⟩
abbrev Ways := Sl 3 WayE

def AreaE : Elem AreaD := fun w b o d bs => In64 d.id ∧ w.cell? ⟨b, o, none⟩ = some (.int .i64 d.id) ∧
  ∃ a c a' c' bs1 bs2, bs = bs1 ++ bs2 ∧ d.parts.length ≤ maxLen ∧ d.tags.length ≤ maxLen ∧ w.cell? ⟨b, o + 1, none⟩ = some (.slice a d.parts.length c) ∧ Parts w a d.parts bs1 ∧ w.cell? ⟨b, o + 2, none⟩ = some (.slice a' d.tags.length c') ∧ Tags w a' d.tags bs2
theorem areaE : Stays 3 AreaE := ⟨fun ⟨h1, h2, a, c, a', c', bs1, bs2, e, hl1, hl2, h3, h4, h5, h6⟩ hc hA => by
    subst e
    exact ⟨h1, same_cell hc 0 (by decide) h2, a, c, a', c', bs1, bs2, rfl, hl1, hl2, same_cell hc 1 (by decide) h3, h4.alike partE (hA.sub fun _ hx => by simp [hx]), same_cell hc 2 (by decide) h5, h6.alike tagE (hA.sub fun _ hx => by simp [hx])⟩,
  fun ⟨_, _, _, _, _, _, bs1, bs2, e, _, _, _, h4, _, h6⟩ x hx => by
    subst e
    rcases List.mem_append.1 hx with hx | hx
    · exact h4.lt partE x hx
    · exact h6.lt tagE x hx⟩
abbrev Areas := Sl 3 AreaE

theorem Sl.bel2 {w w' : World} {a : Option Addr} {l : List TagD} {bs : List Nat} (h : Tags w a l bs) (hb : Bel w w') : Tags w' a l bs := Sl.bel tagE h hb

/-- Several cells of one block, written one behind the other. -/
def setRow (w : World) (B : Nat) : Nat → List Value → World
  | _, [] => w
  | o, v :: r => setRow (w.setCell ⟨B, o, none⟩ v) B (o + 1) r
theorem setRow_size (B : Nat) : ∀ (vs : List Value) (w : World) (o : Nat), (setRow w B o vs).heap.size = w.heap.size
  | [], _, _ => rfl
  | v :: r, w, o => by rw [setRow, setRow_size B r]; simp [World.setCell]
theorem setRow_frozen (B : Nat) (p : Addr) : ∀ (vs : List Value) (w : World) (o : Nat), (setRow w B o vs).frozen? p = w.frozen? p
  | [], _, _ => rfl
  | v :: r, w, o => by rw [setRow, setRow_frozen B p r, World.frozen?_setCell]
theorem setRow_other (B : Nat) {b : Nat} (hb : b ≠ B) (j : Nat) : ∀ (vs : List Value) (w : World) (o : Nat), (setRow w B o vs).cell? ⟨b, j, none⟩ = w.cell? ⟨b, j, none⟩
  | [], _, _ => rfl
  | v :: r, w, o => by
    rw [setRow, setRow_other B hb j r]
    exact World.cell?_setCell_other _ _ _ _ (fun e => hb (congrArg Addr.block e).symm)
theorem setRow_out (B : Nat) (j : Nat) : ∀ (vs : List Value) (w : World) (o : Nat), j < o ∨ o + vs.length ≤ j → (setRow w B o vs).cell? ⟨B, j, none⟩ = w.cell? ⟨B, j, none⟩
  | [], _, _, _ => rfl
  | v :: r, w, o, h => by
    simp only [List.length_cons] at h
    rw [setRow, setRow_out B j r _ _ (by omega)]
    exact World.cell?_setCell_other _ _ _ _ (fun e => by have := congrArg Addr.off e; simp at this; omega)
theorem setRow_in (B : Nat) : ∀ (vs : List Value) (w : World) (o : Nat), (∀ j, j < vs.length → ∃ u, w.cell? ⟨B, o + j, none⟩ = some u) → ∀ j (h : j < vs.length), (setRow w B o vs).cell? ⟨B, o + j, none⟩ = some vs[j]
  | v :: r, w, o, ht, 0, _ => by
    obtain ⟨u, hu⟩ := ht 0 (by simp)
    rw [setRow, setRow_out B (o + 0) r _ _ (by omega)]
    exact World.cell?_setCell_same _ _ _ hu
  | v :: r, w, o, ht, j + 1, h => by
    have h' : j < r.length := by simpa using h
    have := setRow_in B r (w.setCell ⟨B, o, none⟩ v) (o + 1) (fun i hi => by
      obtain ⟨u, hu⟩ := ht (i + 1) (by simpa using hi)
      refine ⟨u, ?_⟩
      rw [World.cell?_setCell_other _ _ _ _ (fun e => by have := congrArg Addr.off e; simp at this; omega)]
      rw [← hu]; congr 2; omega) j h'
    rw [setRow, show o + (j + 1) = o + 1 + j from by omega, this]
    rfl
theorem setRow_bel {w : World} {B : Nat} {W : World} (h : Bel W w) (hB : W.heap.size ≤ B) : ∀ (vs : List Value) (o : Nat), Bel W (setRow w B o vs) := by
  intro vs
  induction vs generalizing w with
  | nil => intro o; exact h
  | cons v r ih => intro o; exact ih (bel_set h hB _) (o + 1)

/-- Blocks of the call's own: each once, none from before, writable. -/
structure Fresh (w w' : World) (bs : List Nat) : Prop where
  nd : bs.Nodup
  new : ∀ b ∈ bs, w.heap.size ≤ b ∧ b < w'.heap.size
  free : ∀ b ∈ bs, ∀ j, w'.frozen? ⟨b, j, none⟩ = false
theorem Fresh.bel {w w' w'' : World} {bs : List Nat} (h : Fresh w w' bs) (hb : Bel w' w'') : Fresh w w'' bs :=
  ⟨h.nd, fun b hm => ⟨(h.new b hm).1, bel_lt hb (h.new b hm).2⟩, fun b hm j => by rw [hb.out.frozen (p := ⟨b, j, none⟩) (h.new b hm).2]; exact h.free b hm j⟩
theorem Fresh.old {v w w' : World} {bs : List Nat} (h : Fresh w w' bs) (hb : v.heap.size ≤ w.heap.size) : Fresh v w' bs :=
  ⟨h.nd, fun b hm => ⟨Nat.le_trans hb (h.new b hm).1, (h.new b hm).2⟩, h.free⟩
theorem Fresh.nil (w w' : World) : Fresh w w' [] := ⟨List.nodup_nil, (fun _ h => nomatch h), (fun _ h => nomatch h)⟩
theorem Fresh.app {w w' : World} {bs cs : List Nat} (h : Fresh w w' bs) (k : Fresh w w' cs) (hd : ∀ x ∈ bs, x ∉ cs) : Fresh w w' (bs ++ cs) :=
  ⟨List.nodup_append.2 ⟨h.nd, k.nd, fun a ha _ hb e => hd a ha (e ▸ hb)⟩,
    fun b hm => (List.mem_append.1 hm).elim (h.new b) (k.new b), fun b hm => (List.mem_append.1 hm).elim (h.free b) (k.free b)⟩
/-- What was made first and what was made behind it. -/
theorem Fresh.behind {w w1 w2 : World} {bs cs : List Nat} (h : Fresh w w1 bs) (hb : Bel w w1) (k : Fresh w1 w2 cs) (hb2 : Bel w1 w2) : Fresh w w2 (bs ++ cs) :=
  (h.bel hb2).app (k.old hb.out.size) fun x hx hx' => absurd (h.new x hx).2 (Nat.not_lt.2 (k.new x hx').1)

/-- A block of the call's own: room for n elements of q cells, of which the first k are laid. -/
structure Fill {α : Type} (q : Nat) (E : Elem α) (w : World) (B n k : Nat) (l : List α) (f : Nat → List Nat) : Prop where
  lt : B < w.heap.size
  laid : ∀ i (h : i < l.length), i < k → E w B (i * q) l[i] (f i)
  there : ∀ j, j < n * q → ∃ v, w.cell? ⟨B, j, none⟩ = some v
  free : ∀ j, w.frozen? ⟨B, j, none⟩ = false
  nd : ((List.range k).flatMap f).Nodup
  sub : ∀ i, i < k → ∀ x ∈ f i, B < x ∧ x < w.heap.size ∧ ∀ j, w.frozen? ⟨x, j, none⟩ = false

theorem Fill.bel {α : Type} {q : Nat} {E : Elem α} (hE : Stays q E) {w w' : World} {B n k : Nat} {l : List α} {f : Nat → List Nat} (h : Fill q E w B n k l f) (hb : Bel w w') : Fill q E w' B n k l f :=
  ⟨bel_lt hb h.lt, fun i hi hk => hE.alike (h.laid i hi hk) (fun j _ => hb.out.cell (p := ⟨B, _, none⟩) h.lt) (Alike.bel hb fun x hx => (h.sub i hk x hx).2.1),
    fun j hj => by rw [hb.out.cell (p := ⟨B, _, none⟩) h.lt]; exact h.there j hj, fun j => by rw [hb.out.frozen (p := ⟨B, _, none⟩) h.lt]; exact h.free j, h.nd,
    fun i hk x hx => ⟨(h.sub i hk x hx).1, bel_lt hb (h.sub i hk x hx).2.1, fun j => by rw [hb.out.frozen (p := ⟨x, _, none⟩) (h.sub i hk x hx).2.1]; exact (h.sub i hk x hx).2.2 j⟩⟩

theorem Fill.start {α : Type} {E : Elem α} (w : World) (zs : Array Value) (q n : Nat) (e : TypeId) (l : List α) : Fill q E (w.alloc (.cells (madeCells zs (n * q)) e)) w.heap.size n 0 l (fun _ => []) := by
  refine ⟨by simp, fun i _ hi => absurd hi (Nat.not_lt_zero _), fun j hj => ?_, fun j => by simp, by simp, fun i hi => absurd hi (Nat.not_lt_zero _)⟩
  have hj' : j < (madeCells zs (n * q)).size := by rw [size_madeCells]; exact hj
  exact ⟨_, by rw [World.cell?_alloc_new, Array.getElem?_eq_getElem hj']⟩

/-- One element more: w0 the world ahead of what the element leads to, w that behind it. -/
theorem Fill.put {α : Type} {q : Nat} {E : Elem α} (hE : Stays q E) {w0 w : World} {B n k : Nat} {l : List α} {f : Nat → List Nat} (h : Fill q E w0 B n k l f) (hb : Bel w0 w) (hk : k < n) (hl : l.length = n)
    {bs : List Nat} (hF : Fresh w0 w bs) (vs : List Value) (hq : vs.length = q) (hel : E (setRow w B (k * q) vs) B (k * q) (l[k]'(by omega)) bs) :
    Fill q E (setRow w B (k * q) vs) B n (k + 1) l (fun i => if i = k then bs else f i) := by
  have h1 := h.bel hE hb
  have hne : ∀ x, B < x → x ≠ B := fun x hx e => by omega
  have hsame : ∀ i, i < k → (fun i => if i = k then bs else f i) i = f i := fun i hi => by simp [show i ≠ k by omega]
  have hkq : k * q + q ≤ n * q := by have := Nat.mul_le_mul_right q (show k + 1 ≤ n by omega); rw [Nat.add_mul, Nat.one_mul] at this; exact this
  refine ⟨by rw [setRow_size]; exact h1.lt, fun i hi hik => ?_, fun j hj => ?_, fun j => by rw [setRow_frozen]; exact h1.free j, ?_, fun i hik x hx => ?_⟩
  · by_cases e : i = k
    · subst e; simpa using hel
    · have hik' : i < k := by omega
      have hiq : i * q + q ≤ k * q := by have := Nat.mul_le_mul_right q (show i + 1 ≤ k by omega); rw [Nat.add_mul, Nat.one_mul] at this; exact this
      rw [if_neg e]
      refine hE.alike (h1.laid i hi hik') (fun j hj => setRow_out _ _ _ _ _ (by omega)) fun x hx => ?_
      obtain ⟨a1, a2, a3⟩ := h1.sub i hik' x hx
      exact ⟨by rw [setRow_size]; exact a2, fun o => setRow_other _ (hne x a1) _ _ _ _, fun o => setRow_frozen _ _ _ _ _⟩
  · by_cases hin : k * q ≤ j ∧ j < k * q + q
    · have := setRow_in B vs w (k * q) (fun i hi => h1.there _ (by omega)) (j - k * q) (by omega)
      rw [show k * q + (j - k * q) = j by omega] at this
      exact ⟨_, this⟩
    · rw [setRow_out _ _ _ _ _ (by omega)]; exact h1.there j hj
  · rw [List.range_succ, List.flatMap_append]
    refine List.nodup_append.2 ⟨?_, ?_, fun a ha b hb' => ?_⟩
    · have : (List.range k).flatMap (fun i => if i = k then bs else f i) = (List.range k).flatMap f := by
        rw [List.flatMap_def, List.flatMap_def, List.map_congr_left fun i hi => hsame i (List.mem_range.1 hi)]
      rw [this]; exact h.nd
    · simpa using hF.nd
    · obtain ⟨i, hi, hx⟩ := List.mem_flatMap.1 ha
      have hi := List.mem_range.1 hi
      rw [if_neg (by omega)] at hx
      have h2 := (h.sub i hi a hx).2.1
      simp at hb'
      have h3 := (hF.new b hb').1
      omega
  · by_cases e : i = k
    · rw [if_pos e] at hx
      exact ⟨Nat.lt_of_lt_of_le h.lt (hF.new x hx).1, by rw [setRow_size]; exact (hF.new x hx).2, fun j => by rw [setRow_frozen]; exact hF.free x hx j⟩
    · rw [if_neg e] at hx
      obtain ⟨a1, a2, a3⟩ := h1.sub i (by omega) x hx
      exact ⟨a1, by rw [setRow_size]; exact a2, fun j => by rw [setRow_frozen]; exact a3 j⟩

theorem Fill.sl {α : Type} {q : Nat} {E : Elem α} {w : World} {B n : Nat} {l : List α} {f : Nat → List Nat} (h : Fill q E w B n n l f) (hl : l.length = n) :
    Sl q E w (some ⟨B, 0, none⟩) l (B :: (List.range n).flatMap f) :=
  .inr ⟨B, 0, f, rfl, h.lt, by rw [hl], fun i hi => by rw [Nat.zero_add]; exact h.laid i hi (by omega)⟩
theorem Fill.fresh {α : Type} {q : Nat} {E : Elem α} {W w : World} {B n : Nat} {l : List α} {f : Nat → List Nat} (h : Fill q E w B n n l f) (hB : W.heap.size ≤ B) : Fresh W w (B :: (List.range n).flatMap f) := by
  have hm : ∀ x ∈ (List.range n).flatMap f, B < x ∧ x < w.heap.size ∧ ∀ j, w.frozen? ⟨x, j, none⟩ = false := fun x hx => by
    obtain ⟨i, hi, hx⟩ := List.mem_flatMap.1 hx
    exact h.sub i (List.mem_range.1 hi) x hx
  refine ⟨List.nodup_cons.2 ⟨fun hx => absurd (hm B hx).1 (Nat.lt_irrefl _), h.nd⟩, fun b hb => ?_, fun b hb j => ?_⟩
  · rcases List.mem_cons.1 hb with rfl | hb
    · exact ⟨hB, h.lt⟩
    · exact ⟨Nat.le_trans hB (Nat.le_of_lt (hm b hb).1), (hm b hb).2.1⟩
  · rcases List.mem_cons.1 hb with rfl | hb
    · exact h.free j
    · exact (hm b hb).2.2 j

/-- Of the blocks from n on nothing has turned. -/
def Abv (n : Nat) (w w' : World) : Prop := w.heap.size ≤ w'.heap.size ∧ ∀ b, n ≤ b → b < w.heap.size → (∀ o, w'.cell? ⟨b, o, none⟩ = w.cell? ⟨b, o, none⟩) ∧ ∀ o, w'.frozen? ⟨b, o, none⟩ = w.frozen? ⟨b, o, none⟩
theorem Abv.refl (n : Nat) (w : World) : Abv n w w := ⟨Nat.le_refl _, fun _ _ _ => ⟨fun _ => rfl, fun _ => rfl⟩⟩
theorem Abv.trans {n : Nat} {w w1 w2 : World} (h : Abv n w w1) (k : Abv n w1 w2) : Abv n w w2 :=
  ⟨Nat.le_trans h.1 k.1, fun b hn hb => ⟨fun o => by rw [(k.2 b hn (Nat.lt_of_lt_of_le hb h.1)).1, (h.2 b hn hb).1], fun o => by rw [(k.2 b hn (Nat.lt_of_lt_of_le hb h.1)).2, (h.2 b hn hb).2]⟩⟩
theorem Abv.bel {n : Nat} {w w1 w2 : World} (h : Abv n w w1) (k : Bel w1 w2) : Abv n w w2 :=
  h.trans ⟨k.out.size, fun b _ hb => ⟨fun o => k.out.cell (p := ⟨b, o, none⟩) hb, fun o => k.out.frozen (p := ⟨b, o, none⟩) hb⟩⟩
theorem Abv.set {n : Nat} {w w1 : World} (h : Abv n w w1) {b o : Nat} (hb : b < n) (u : Value) : Abv n w (w1.setCell ⟨b, o, none⟩ u) :=
  h.trans ⟨by simp [World.setCell], fun c hn _ => ⟨fun o' => World.cell?_setCell_other _ _ _ _ (fun e => by have := congrArg Addr.block e; simp at this; omega), fun o' => World.frozen?_setCell _ _ _ _⟩⟩
theorem Abv.alike {n : Nat} {w w' : World} (h : Abv n w w') {bs : List Nat} (hs : ∀ x ∈ bs, n ≤ x ∧ x < w.heap.size) : Alike w w' bs :=
  fun b hb => ⟨Nat.lt_of_lt_of_le (hs b hb).2 h.1, (h.2 b (hs b hb).1 (hs b hb).2).1, (h.2 b (hs b hb).1 (hs b hb).2).2⟩
theorem Fresh.abv {v w w' : World} {n : Nat} {bs : List Nat} (h : Fresh v w bs) (hn : n ≤ v.heap.size) (k : Abv n w w') : Fresh v w' bs :=
  ⟨h.nd, fun b hm => ⟨(h.new b hm).1, Nat.lt_of_lt_of_le (h.new b hm).2 k.1⟩, fun b hm j => by rw [(k.2 b (Nat.le_trans hn (h.new b hm).1) (h.new b hm).2).2]; exact h.free b hm j⟩
theorem Fresh.abv0 {v w w' : World} {n : Nat} {bs : List Nat} (h : Fresh v w bs) (hn : ∀ x ∈ bs, n ≤ x) (k : Abv n w w') : Fresh v w' bs :=
  ⟨h.nd, fun b hm => ⟨(h.new b hm).1, Nat.lt_of_lt_of_le (h.new b hm).2 k.1⟩, fun b hm j => by rw [(k.2 b (hn b hm) (h.new b hm).2).2]; exact h.free b hm j⟩
theorem Sl.abv {α : Type} {q : Nat} {E : Elem α} (hE : Stays q E) {v w w' : World} {a : Option Addr} {l : List α} {bs : List Nat} {n : Nat} (h : Sl q E w a l bs) (hF : Fresh v w bs) (hn : n ≤ v.heap.size) (k : Abv n w w') : Sl q E w' a l bs :=
  h.alike hE (k.alike fun x hx => ⟨Nat.le_trans hn (hF.new x hx).1, (hF.new x hx).2⟩)

/-- The sum over the first k of a list. -/
def sumTo {α : Type} (f : α → Nat) (l : List α) (k : Nat) : Nat := ((l.take k).map f).sum
theorem sumTo_succ {α : Type} (f : α → Nat) {l : List α} {k : Nat} (h : k < l.length) : sumTo f l (k + 1) = sumTo f l k + f l[k] := by
  unfold sumTo
  rw [List.take_succ_eq_append_getElem h, List.map_append, List.sum_append]
  simp only [List.map_cons, List.map_nil, List.sum_cons, List.sum_nil, Nat.add_zero]
theorem sumTo_mono {α : Type} (f : α → Nat) {l : List α} {k : Nat} : ∀ m, k + m ≤ l.length → sumTo f l k ≤ sumTo f l (k + m)
  | 0, _ => Nat.le_refl _
  | m + 1, h => by
    have := sumTo_mono f m (by omega : k + m ≤ l.length)
    rw [← Nat.add_assoc, sumTo_succ f (by omega)]
    omega
theorem sumTo_le {α : Type} (f : α → Nat) {l : List α} {k n : Nat} (h : k ≤ n) (hn : n = l.length) : sumTo f l k ≤ sumTo f l n := by
  have := sumTo_mono f (l := l) (k := k) (n - k) (by omega)
  rwa [show k + (n - k) = n by omega] at this
theorem sumTo_zero {α : Type} (f : α → Nat) (l : List α) : sumTo f l 0 = 0 := rfl
/-- What is left of a bound. -/
def szR (left : Int) (s : Nat) : Int := if (s : Int) ≤ left then left - s else -1
theorem szR_pos {left : Int} {s : Nat} (h : (s : Int) ≤ left) : szR left s = left - s := by simp [szR, h]
theorem szR_neg {left : Int} {s : Nat} (h : ¬ (s : Int) ≤ left) : szR left s = -1 := by simp [szR, h]
theorem szR_bd {left : Int} {s : Nat} (h : left ≤ 1048576) : szR left s ≤ 1048576 ∧ -1 ≤ szR left s := by
  unfold szR; split <;> omega
theorem szR_add {left : Int} {s t : Nat} (h : 0 ≤ szR left s) : szR (szR left s) t = szR left (s + t) := by
  unfold szR at *; split at h
  · rename_i h1; simp only [h1, if_true]; split <;> split <;> omega
  · omega
theorem szR_out {left : Int} {s t : Nat} (h : szR left s < 0) : szR left (s + t) = -1 := by
  unfold szR at *; split at h
  · omega
  · split <;> omega
def tagSz (t : TagD) : Nat := t.k.size + t.v.size
def tagsSz (l : List TagD) : Nat := l.length + sumTo tagSz l l.length
def nodeSz (d : NodeD) : Nat := tagsSz d.tags
def nodesSz (l : List NodeD) : Nat := l.length + sumTo nodeSz l l.length
def waySz (d : WayD) : Nat := d.nodes.length + tagsSz d.tags
def waysSz (l : List WayD) : Nat := l.length + sumTo waySz l l.length
def areaSz (d : AreaD) : Nat := d.parts.length + tagsSz d.tags
def areasSz (l : List AreaD) : Nat := l.length + sumTo areaSz l l.length
def mapSz (m : MapD) : Nat := nodesSz m.nodes + waysSz m.ways + areasSz m.areas
theorem ret_num {a b : Int} (h : a = b) : Ending.returned (.int .i64 a) = .returned (.int .i64 b) := by rw [h]
theorem bel_cellM {W w' : World} (h : Bel W w') {b o : Nat} {v : Value} (hb : b < W.heap.size) (hc : W.cell? ⟨b, o, none⟩ = some v) : w'.cell? ⟨b, o, none⟩ = some v := by
  rw [h.out.cell (p := ⟨b, o, none⟩) hb]; exact hc
theorem bel_drewN {w a : World} (h : Bel w a) : ∀ n, Bel w (a.drewN n)
  | 0 => h
  | n + 1 => by rw [World.drewN]; first | exact Bel.drew (bel_drewN h n) | exact bel_drewN (Bel.drew h) n
theorem setRow_alike (vs : List Value) {w : World} {B o : Nat} {bs : List Nat} (hs : ∀ x ∈ bs, x < w.heap.size) (hB : B ∉ bs) : Alike w (setRow w B o vs) bs :=
  fun b hb => ⟨by rw [setRow_size]; exact hs b hb, fun j => setRow_other _ (fun e => by subst e; exact hB hb) _ _ _ _, fun j => setRow_frozen _ _ _ _ _⟩

/-- A block of the call's own that holds these values. -/
structure Blk (w : World) (B : Nat) (vs : List Value) : Prop where
  lt : B < w.heap.size
  cell : ∀ j (h : j < vs.length), w.cell? ⟨B, j, none⟩ = some vs[j]
  free : ∀ j, w.frozen? ⟨B, j, none⟩ = false
theorem Blk.bel {w w' : World} {B : Nat} {vs : List Value} (h : Blk w B vs) (hb : Bel w w') : Blk w' B vs :=
  ⟨bel_lt hb h.lt, fun j hj => bel_cellM hb h.lt (h.cell j hj), fun j => by rw [hb.out.frozen (p := ⟨B, j, none⟩) h.lt]; exact h.free j⟩
theorem Blk.set {w : World} {B : Nat} {vs : List Value} (h : Blk w B vs) (i : Nat) (v : Value) (hi : i < vs.length) : Blk (w.setCell ⟨B, i, none⟩ v) B (vs.set i v) := by
  refine ⟨by simpa [World.setCell] using h.lt, fun j hj => ?_, fun j => by rw [World.frozen?_setCell]; exact h.free j⟩
  simp only [List.length_set] at hj
  by_cases e : i = j
  · subst e
    rw [World.cell?_setCell_same _ _ _ (h.cell i hi)]; simp
  · rw [World.cell?_setCell_other _ _ _ _ (fun x => e (congrArg Addr.off x)), h.cell j hj]; simp [e]
theorem Blk.far {w : World} {B B' i : Nat} {v : Value} {vs : List Value} (h : Blk w B vs) (hne : B' ≠ B) : Blk (w.setCell ⟨B', i, none⟩ v) B vs :=
  ⟨by simpa [World.setCell] using h.lt, fun j hj => by rw [World.cell?_setCell_other _ _ _ _ (fun e => hne (congrArg Addr.block e))]; exact h.cell j hj, fun j => by rw [World.frozen?_setCell]; exact h.free j⟩
theorem Blk.new (w : World) (vs : List Value) (t : TypeId) : Blk (w.alloc (.cells vs.toArray t)) w.heap.size vs :=
  ⟨by simp, fun j hj => by rw [World.cell?_alloc_new]; simp [hj], fun j => by simp⟩
theorem Blk.new1 (w : World) (o : Obj) (vs : List Value) (t : TypeId) : Blk ((w.alloc o).alloc (.cells vs.toArray t)) (w.heap.size + 1) vs := by
  simpa using Blk.new (w.alloc o) vs t
theorem Blk.new2 (w : World) (o o' : Obj) (vs : List Value) (t : TypeId) : Blk (((w.alloc o).alloc o').alloc (.cells vs.toArray t)) (w.heap.size + 1 + 1) vs := by
  simpa using Blk.new ((w.alloc o).alloc o') vs t
end Go.Proofs.Ytiagdabikbjbiaa

namespace Go.Proofs.Ytiagdabikbjbiaa
open Go.RowKit

/-- The one text stands ahead of the other. -/
def ltS (a b : ByteArray) : Bool := Op.bytesLess a.toList b.toList
theorem bytesLess_flip : ∀ a b : List UInt8, (Op.bytesLess a b || a == b) = !Op.bytesLess b a
  | [], [] => by simp [Op.bytesLess]
  | [], _ :: _ => by simp [Op.bytesLess]
  | _ :: _, [] => by simp [Op.bytesLess]
  | a :: x, b :: y => by
    have ih := bytesLess_flip x y
    simp only [Op.bytesLess]
    by_cases h1 : a < b
    · have h2 : ¬ b < a := fun h => absurd (UInt8.lt_trans h1 h) (UInt8.lt_irrefl _)
      have h3 : ¬ b = a := fun h => by subst h; exact UInt8.lt_irrefl _ h1
      simp [h1, h2, h3]
    · by_cases h2 : b < a
      · have h3 : ¬ a = b := fun h => by subst h; exact UInt8.lt_irrefl _ h2
        simp [h1, h2, h3]
      · have h3 : a = b := UInt8.le_antisymm (UInt8.not_lt.1 h2) (UInt8.not_lt.1 h1)
        subst h3
        simp only [h1, decide_false, Bool.false_or, beq_self_eq_true, Bool.true_and] at *
        simpa using ih
theorem leS (a b : ByteArray) : (Op.bytesLess a.toList b.toList || a.toList == b.toList) = !ltS b a := bytesLess_flip _ _

/-- The tag at place i is as it should be behind the one ahead. -/
def TagOkAt (l : List TagD) (i : Nat) (h : i < l.length) : Prop :=
  wordB l[i].k = true ∧ valB l[i].v = true ∧ (0 < i → ltS (l[i - 1]'(by omega)).k l[i].k = true)
def TagsOkP (l : List TagD) : Prop := l.length ≤ 30 ∧ ∀ i (h : i < l.length), TagOkAt l i h
/-- Whether something holds. -/
noncomputable def bP (p : Prop) : Bool := @decide p (Classical.propDecidable p)
theorem bP_true {p : Prop} (h : p) : bP p = true := @decide_eq_true p (Classical.propDecidable p) h
theorem bP_false {p : Prop} (h : ¬ p) : bP p = false := @decide_eq_false p (Classical.propDecidable p) h
theorem bP_out {p : Prop} (h : bP p = true) : p := @of_decide_eq_true p (Classical.propDecidable p) h
theorem bP_not {p : Prop} (h : bP p = false) : ¬ p := @of_decide_eq_false p (Classical.propDecidable p) h

noncomputable def tagsB (l : List TagD) : Bool := bP (TagsOkP l)
theorem tagsB_big {l : List TagD} (h : ¬ l.length ≤ 30) : tagsB l = false := bP_false fun hh => h hh.1
theorem tagsB_at {l : List TagD} {i : Nat} (h : i < l.length) (hn : ¬ TagOkAt l i h) : tagsB l = false := bP_false fun hh => hn (hh.2 i h)
theorem tagsB_true {l : List TagD} (h : l.length ≤ 30) (ha : ∀ i (h : i < l.length), TagOkAt l i h) : tagsB l = true := bP_true ⟨h, ha⟩
theorem tagsB_out {l : List TagD} (h : tagsB l = true) : TagsOkP l := bP_out h
end Go.Proofs.Ytiagdabikbjbiaa

namespace Go.Proofs.Ytiagdabikbjbiaa
open Go.RowKit

/-- What stands ahead of place i: 0 at the beginning. -/
def prevI (I : Nat → Int) : Nat → Int
  | 0 => 0
  | k + 1 => I k
/-- Ids that ascend from 1 on, with Tags that can be. -/
def AscP (n : Nat) (I : Nat → Int) (T : Nat → Bool) : Prop := ∀ i, i < n → prevI I i < I i ∧ I i ≤ 1000000000 ∧ T i = true
theorem AscP.pos {n : Nat} {I : Nat → Int} {T : Nat → Bool} (h : AscP n I T) : ∀ i, i < n → 1 ≤ I i
  | 0, hi => by have := (h 0 hi).1; simp only [prevI] at this; omega
  | k + 1, hi => by
    have h1 := h.pos k (by omega)
    have h2 := (h (k + 1) hi).1
    simp only [prevI] at h2
    omega
theorem AscP.lt {n : Nat} {I : Nat → Int} {T : Nat → Bool} (h : AscP n I T) {i : Nat} : ∀ d, i + (d + 1) < n → I i < I (i + (d + 1))
  | 0, hj => by have := (h (i + 1) hj).1; simpa [prevI] using this
  | d + 1, hj => by
    have h1 := h.lt (i := i) d (by omega)
    have h2 := (h (i + (d + 1) + 1) (by omega)).1
    simp only [prevI] at h2
    have e : i + (d + 1 + 1) = i + (d + 1) + 1 := by omega
    rw [e]; omega
theorem AscP.mono {n : Nat} {I : Nat → Int} {T : Nat → Bool} (h : AscP n I T) {i j : Nat} (hij : i < j) (hj : j < n) : I i < I j := by
  have := h.lt (i := i) (j - i - 1) (by omega)
  rwa [show i + (j - i - 1 + 1) = j by omega] at this
theorem AscP.inj {n : Nat} {I : Nat → Int} {T : Nat → Bool} (h : AscP n I T) {i j : Nat} (hi : i < n) (hj : j < n) (e : I i = I j) : i = j := by
  rcases Nat.lt_trichotomy i j with h1 | h1 | h1
  · have := h.mono h1 hj; omega
  · exact h1
  · have := h.mono h1 hi; omega

def nId (l : List NodeD) (i : Nat) : Int := (l.getD i ⟨0, 0, 0, []⟩).id
noncomputable def nTg (l : List NodeD) (i : Nat) : Bool := tagsB (l.getD i ⟨0, 0, 0, []⟩).tags
def nPk (l : List NodeD) (i : Nat) : Bool := pok (l.getD i ⟨0, 0, 0, []⟩).x (l.getD i ⟨0, 0, 0, []⟩).y
def wId (l : List WayD) (i : Nat) : Int := (l.getD i ⟨0, [], []⟩).id
noncomputable def wTg (l : List WayD) (i : Nat) : Bool := tagsB (l.getD i ⟨0, [], []⟩).tags
def aId (l : List AreaD) (i : Nat) : Int := (l.getD i ⟨0, [], []⟩).id
noncomputable def aTg (l : List AreaD) (i : Nat) : Bool := tagsB (l.getD i ⟨0, [], []⟩).tags
theorem getD_at {α : Type} {l : List α} {i : Nat} (d : α) (h : i < l.length) : l.getD i d = l[i] := by
  rw [List.getD_eq_getElem?_getD, List.getElem?_eq_getElem h]; rfl
theorem nId_at {l : List NodeD} {i : Nat} (h : i < l.length) : nId l i = l[i].id := by unfold nId; rw [getD_at _ h]
theorem nTg_at {l : List NodeD} {i : Nat} (h : i < l.length) : nTg l i = tagsB l[i].tags := by unfold nTg; rw [getD_at _ h]
theorem nPk_at {l : List NodeD} {i : Nat} (h : i < l.length) : nPk l i = pok l[i].x l[i].y := by unfold nPk; rw [getD_at _ h]
theorem wId_at {l : List WayD} {i : Nat} (h : i < l.length) : wId l i = l[i].id := by unfold wId; rw [getD_at _ h]
theorem wTg_at {l : List WayD} {i : Nat} (h : i < l.length) : wTg l i = tagsB l[i].tags := by unfold wTg; rw [getD_at _ h]
theorem aId_at {l : List AreaD} {i : Nat} (h : i < l.length) : aId l i = l[i].id := by unfold aId; rw [getD_at _ h]
theorem aTg_at {l : List AreaD} {i : Nat} (h : i < l.length) : aTg l i = tagsB l[i].tags := by unfold aTg; rw [getD_at _ h]

/-- There is one with that Id. -/
def HasI (n : Nat) (I : Nat → Int) (id : Int) : Prop := ∃ i, i < n ∧ I i = id
/-- A way's Nodes: 2 to MaxRow, each of a node, no two beside each other the same. -/
def WayP (n : Nat) (I : Nat → Int) (ns : List Int) : Prop :=
  2 ≤ ns.length ∧ ns.length ≤ 2000 ∧ ∀ j (h : j < ns.length), HasI n I ns[j] ∧ (0 < j → ns[j] ≠ ns[j - 1]'(by omega))
/-- An area's Parts: 1 to MaxTags, each of a way, no two of one. -/
def AreaP (n : Nat) (I : Nat → Int) (ps : List PartD) : Prop :=
  1 ≤ ps.length ∧ ps.length ≤ 30 ∧ ∀ j (h : j < ps.length), HasI n I ps[j].way ∧ ∀ k (hk : k < j), (ps[k]'(by omega)).way ≠ ps[j].way

structure MapOkP (m : MapD) : Prop where
  n1 : m.nodes.length ≤ 5000
  n2 : m.ways.length ≤ 1000
  n3 : m.areas.length ≤ 300
  an : AscP m.nodes.length (nId m.nodes) (nTg m.nodes)
  aw : AscP m.ways.length (wId m.ways) (wTg m.ways)
  aa : AscP m.areas.length (aId m.areas) (aTg m.areas)
  pl : ∀ i, i < m.nodes.length → nPk m.nodes i = true
  wy : ∀ i (h : i < m.ways.length), WayP m.nodes.length (nId m.nodes) m.ways[i].nodes
  ar : ∀ i (h : i < m.areas.length), AreaP m.ways.length (wId m.ways) m.areas[i].parts
noncomputable def mapB (m : MapD) : Bool := bP (MapOkP m)

/-- A number as a key. -/
abbrev kI (x : Int) : Lit := .int .i64 x
end Go.Proofs.Ytiagdabikbjbiaa
