/-
  Contracts of the small functions of chapter 1 (a point can be; the whole root, in the program and in its model), each for every argument.
-/
import Derived.Test.YtpbpnkklnbmkeaaRows
import Derived.Test.YtpbpnkklnbmkeaaMath
import Derived.WalkKit
import Derived.WalkSpells
import Derived.Lib.Strings
import Derived.Lib.Slices
import Derived.Lib.Small
import Derived.Lib.Walk
import Derived.Lib.BitFns
import Derived.Lib.ItoaNum
import Derived.Below
namespace Go.Proofs.Ytpbpnkklnbmkeaa
open Go.RowKit

/-- A coordinate can be. -/
def cok (n : Int) : Bool := decide (-10000000 ≤ n) && decide (n ≤ 10000000)
/-- A point can be. -/
def pok (x y : Int) : Bool := cok x && cok y

theorem cok_iff {n : Int} : cok n = true ↔ -10000000 ≤ n ∧ n ≤ 10000000 := by simp [cok]
theorem cok_not {n : Int} : cok n = false ↔ n < -10000000 ∨ 10000000 < n := by simp only [cok, Bool.and_eq_false_iff, decide_eq_false_iff_not]; omega

/-- A point as a value. -/
abbrev pt (x y : Int) : Value := .agg #[.int .i64 x, .int .i64 y]

theorem coordOk_any (n : Int) (w : World) :
    Calls Try.prog 68 #[.int .i64 n] w fun e w' => e = .returned (.bool (cok n)) ∧ w' = w := by
  by_cases h1 : -10000000 ≤ n
  · by_cases h2 : n ≤ 10000000
    · have h : cok n = true := cok_iff.2 ⟨h1, h2⟩
      rw [h]; clear h
      go_enter Try.func68, Try.ntmps68
      go_wp2
      go_ret
      exact ⟨rfl, rfl⟩
    · have h : cok n = false := cok_not.2 (by omega)
      rw [h]; clear h
      go_enter Try.func68, Try.ntmps68
      go_wp2
      go_ret
      exact ⟨rfl, rfl⟩
  · have h : cok n = false := cok_not.2 (by omega)
    rw [h]; clear h
    go_enter Try.func68, Try.ntmps68
    go_wp2
    go_ret
    exact ⟨rfl, rfl⟩

/-- Of what was there nothing has turned. -/
def Bel (w w' : World) : Prop := Below w.heap.size w w'
theorem Bel.out {w w' : World} (h : Bel w w') : Below w.heap.size w w' := h
theorem Bel.refl (w : World) : Bel w w := Below.refl _ _
theorem Bel.drew {w a : World} (h : Bel w a) : Bel w a.drew := Below.drew h
/-- What a call made on, behind what was made. -/
theorem bel_step {w a b : World} (h : Bel w a) (k : Bel a b) : Bel w b := h.trans (k.out.mono h.out.size)
theorem bel_then {w a b : World} (k : Bel a b) (h : Bel w a) : Bel w b := bel_step h k
theorem bel_alloc {w a : World} (h : Bel w a) (o : Obj) : Bel w (a.alloc o) := Below.alloc h h.out.size o
theorem bel_set {w a : World} (h : Bel w a) {p : Addr} (hp : w.heap.size ≤ p.block) (u : Value) : Bel w (a.setCell p u) := Below.setCell h hp u
theorem bel_set2 {w a b : World} (h : Bel w a) (hb : Bel w b) {o : Nat} {s : Option Nat} (u : Value) : Bel w (a.setCell ⟨b.heap.size, o, s⟩ u) := bel_set h hb.out.size u
theorem bel_set3 {w a b : World} (h : Bel w a) (hb : Bel w b) {o : Nat} {s : Option Nat} (u : Value) : Bel w (a.setCell ⟨b.heap.size + 1, o, s⟩ u) := bel_set h (Nat.le_trans hb.out.size (Nat.le_succ _)) u
theorem bel_lt {w a : World} (h : Bel w a) {n : Nat} (hn : n < w.heap.size) : n < a.heap.size := Nat.lt_of_lt_of_le hn h.out.size
/-- All old cells, all old marks read as before. -/
theorem bcell {W w1 : World} (hb : Bel W w1) : (∀ b o, b < W.heap.size → w1.cell? ⟨b, o, none⟩ = W.cell? ⟨b, o, none⟩) ∧ (∀ b o, b < W.heap.size → w1.frozen? ⟨b, o, none⟩ = W.frozen? ⟨b, o, none⟩) ∧ (∀ b, b < W.heap.size → b < w1.heap.size) :=
  ⟨fun b o h => hb.out.cell (p := ⟨b, o, none⟩) h, fun b o h => hb.out.frozen (p := ⟨b, o, none⟩) h, fun _ h => bel_lt hb h⟩

theorem toPoint_any (x y : Int) (w : World) :
    Calls Try.prog 88 #[pt x y] w fun e w' => e = .returned (pt x y) ∧ Bel w w' := by
  go_enter Try.func88, Try.ntmps88
  go_wp2
  exact bodyPost_ret (v := pt x y) (by simp [results, Try.results88, go_sem]) rfl ⟨rfl, bel_alloc (bel_alloc (bel_alloc (Bel.refl _) _) _) _⟩

theorem pointOk_any (x y : Int) (w : World) :
    Calls Try.prog 51 #[pt x y] w fun e w' => e = .returned (.bool (pok x y)) ∧ Bel w w' := by
  by_cases h1 : cok x = true
  · have hp : pok x y = cok y := by simp [pok, h1]
    rw [hp]; clear hp
    go_enter Try.func51, Try.ntmps51
    go_wp2_with (go_at_call 68; refine (coordOk_any _ _).mono ?_; rintro e w' ⟨rfl, rfl⟩)
    go_ret
    exact ⟨rfl, bel_alloc (Bel.refl _) _⟩
  · have h1 : cok x = false := by simpa using h1
    have hp : pok x y = false := by simp [pok, h1]
    rw [hp]; clear hp
    go_enter Try.func51, Try.ntmps51
    go_wp2_with (go_at_call 68; refine (coordOk_any _ _).mono ?_; rintro e w' ⟨rfl, rfl⟩)
    go_ret
    exact ⟨rfl, bel_alloc (Bel.refl _) _⟩

theorem specPointOk_any (x y : Int) (w : World) :
    Calls Try.prog 104 #[pt x y] w fun e w' => e = .returned (.bool (pok x y)) ∧ Bel w w' := by
  by_cases h1 : -10000000 ≤ x
  · by_cases h2 : x ≤ 10000000
    · by_cases h3 : -10000000 ≤ y
      · by_cases h4 : y ≤ 10000000
        · have hp : pok x y = true := by simp [pok, cok, h1, h2, h3, h4]
          rw [hp]; clear hp
          go_enter Try.func104, Try.ntmps104
          go_wp2
          go_ret
          exact ⟨rfl, bel_alloc (Bel.refl _) _⟩
        · have hp : pok x y = false := by simp [pok, cok, h4]
          rw [hp]; clear hp
          go_enter Try.func104, Try.ntmps104
          go_wp2
          go_ret
          exact ⟨rfl, bel_alloc (Bel.refl _) _⟩
      · have hp : pok x y = false := by simp [pok, cok, h3]
        rw [hp]; clear hp
        go_enter Try.func104, Try.ntmps104
        go_wp2
        go_ret
        exact ⟨rfl, bel_alloc (Bel.refl _) _⟩
    · have hp : pok x y = false := by simp [pok, cok, h2]
      rw [hp]; clear hp
      go_enter Try.func104, Try.ntmps104
      go_wp2
      go_ret
      exact ⟨rfl, bel_alloc (Bel.refl _) _⟩
  · have hp : pok x y = false := by simp [pok, cok, h1]
    rw [hp]; clear hp
    go_enter Try.func104, Try.ntmps104
    go_wp2
    go_ret
    exact ⟨rfl, bel_alloc (Bel.refl _) _⟩
end Go.Proofs.Ytpbpnkklnbmkeaa
