/-
  Contracts of the small functions of chapter 1 (a point can be; the whole root, in the program and in its model), each for every argument.
-/
import Derived.Test.YtonedkibbdbgjaaRows
import Derived.Test.YtonedkibbdbgjaaMath
import Derived.WalkKit
import Derived.WalkSpells
import Derived.Lib.Strings
import Derived.Lib.Slices
import Derived.Lib.Small
import Derived.Lib.Walk
import Derived.Lib.BitFns
import Derived.Lib.ItoaNum
import Derived.Below
namespace Go.Proofs.Ytonedkibbdbgjaa
open Go.RowKit

/-- A coordinate can be. -/
def cok (n : Int) : Bool := decide (-10000000 ≤ n) && decide (n ≤ 10000000)
/-- A point can be. -/
def pok (x y : Int) : Bool := cok x && cok y

theorem cok_iff {n : Int} : cok n = true ↔ -10000000 ≤ n ∧ n ≤ 10000000 := by simp [cok]
theorem cok_not {n : Int} : cok n = false ↔ n < -10000000 ∨ 10000000 < n := by simp only [cok, Bool.and_eq_false_iff, decide_eq_false_iff_not]; omega

/-- A point as a value. -/
abbrev pt (x y : Int) : Value := .agg #[.int .i64 x, .int .i64 y]

/-- Of what was there nothing has turned. -/
def Bel (w w' : World) : Prop := Below w.heap.size w w'
theorem Bel.out {w w' : World} (h : Bel w w') : Below w.heap.size w w' := h
theorem Bel.refl (w : World) : Bel w w := Below.refl _ _
theorem Bel.drew {w a : World} (h : Bel w a) : Bel w a.drew := Below.drew h
/-- What a call made on, behind what was made. -/
theorem bel_step {w a b : World} (h : Bel w a) (k : Bel a b) : Bel w b := h.trans (k.out.mono h.out.size)
theorem bel_then {w a b : World} (k : Bel a b) (h : Bel w a) : Bel w b := bel_step h k
theorem bel_alloc {w a : World} (h : Bel w a) (o : Obj) : Bel w (a.alloc o) := Below.alloc h h.out.size o
theorem bel_set {w a : World} (h : Bel w a) {p : Addr} (hp : w.heap.size ≤ p.block) (u : Value) : Bel w (a.setCell p u) := Below.setCell h hp u
theorem bel_set2 {w a b : World} (h : Bel w a) (hb : Bel w b) {o : Nat} {s : Option Nat} (u : Value) : Bel w (a.setCell ⟨b.heap.size, o, s⟩ u) := bel_set h hb.out.size u
theorem bel_set3 {w a b : World} (h : Bel w a) (hb : Bel w b) {o : Nat} {s : Option Nat} (u : Value) : Bel w (a.setCell ⟨b.heap.size + 1, o, s⟩ u) := bel_set h (Nat.le_trans hb.out.size (Nat.le_succ _)) u
theorem bel_lt {w a : World} (h : Bel w a) {n : Nat} (hn : n < w.heap.size) : n < a.heap.size := Nat.lt_of_lt_of_le hn h.out.size
/-- All old cells, all old marks read as before. -/
theorem bcell {W w1 : World} (hb : Bel W w1) : (∀ b o, b < W.heap.size → w1.cell? ⟨b, o, none⟩ = W.cell? ⟨b, o, none⟩) ∧ (∀ b o, b < W.heap.size → w1.frozen? ⟨b, o, none⟩ = W.frozen? ⟨b, o, none⟩) ∧ (∀ b, b < W.heap.size → b < w1.heap.size) :=
  ⟨fun b o h => hb.out.cell (p := ⟨b, o, none⟩) h, fun b o h => hb.out.frozen (p := ⟨b, o, none⟩) h, fun _ h => bel_lt hb h⟩

end Go.Proofs.Ytonedkibbdbgjaa
