/-
  A place on a row in memory, and the nearest place of a row as both tell it: definitions and plain lemmas.
-/
import Derived.Test.YtkknbapcbcialaaFootN
import Derived.Test.YtkknbapcbcialaaLengthC
namespace Go.Proofs.Ytkknbapcbcialaa
open Go.RowKit

/-- A block of the call's own with room for m numbers. -/
structure Room (w : World) (B m : Nat) : Prop where
  lt : B < w.heap.size
  there : ∀ j, j < m → ∃ z : Int, w.cell? ⟨B, j, none⟩ = some (.int .i64 z)
  fr : ∀ j, w.frozen? ⟨B, j, none⟩ = false
theorem Room.bel {w w' : World} {B m : Nat} (h : Room w B m) (hb : Bel w w') : Room w' B m :=
  ⟨bel_lt hb h.lt, fun j hj => (h.there j hj).elim fun z e => ⟨z, bel_cell hb h.lt e⟩, fun j => by rw [hb.out.frozen (p := ⟨B, j, none⟩) h.lt]; exact h.fr j⟩
theorem Room.set {w : World} {B m : Nat} (h : Room w B m) (o : Nat) (z : Int) : Room (w.setCell ⟨B, o, none⟩ (.int .i64 z)) B m := by
  refine ⟨by simpa [World.setCell] using h.lt, fun j hj => ?_, fun j => by rw [World.frozen?_setCell]; exact h.fr j⟩
  obtain ⟨u, e⟩ := h.there j hj
  by_cases k : o = j
  · subst k; exact ⟨z, setc_same e⟩
  · exact ⟨u, by rw [setc_other k]; exact e⟩
theorem Room.far {w : World} {B C m : Nat} (h : Room w B m) (n : C ≠ B) (o : Nat) (v : Value) : Room (w.setCell ⟨C, o, none⟩ v) B m :=
  ⟨by simpa [World.setCell] using h.lt, fun j hj => by rw [setc_far n]; exact h.there j hj, fun j => by rw [World.frozen?_setCell]; exact h.fr j⟩

/-- A place as a value. -/
abbrev ft (l a x y f : Int) : Value := .agg #[.int .i64 l, .int .i64 a, .int .i64 x, .int .i64 y, .int .i64 f]
/-- A block of the call's own with a place. -/
structure Five (w : World) (B : Nat) (l a x y f : Int) : Prop where
  lt : B < w.heap.size
  c0 : w.cell? ⟨B, 0, none⟩ = some (.int .i64 l)
  c1 : w.cell? ⟨B, 1, none⟩ = some (.int .i64 a)
  c2 : w.cell? ⟨B, 2, none⟩ = some (.int .i64 x)
  c3 : w.cell? ⟨B, 3, none⟩ = some (.int .i64 y)
  c4 : w.cell? ⟨B, 4, none⟩ = some (.int .i64 f)
  fr : ∀ j, w.frozen? ⟨B, j, none⟩ = false
theorem Five.bel {w w' : World} {B : Nat} {l a x y f : Int} (h : Five w B l a x y f) (hb : Bel w w') : Five w' B l a x y f :=
  ⟨bel_lt hb h.lt, bel_cell hb h.lt h.c0, bel_cell hb h.lt h.c1, bel_cell hb h.lt h.c2, bel_cell hb h.lt h.c3, bel_cell hb h.lt h.c4, fun j => by rw [hb.out.frozen (p := ⟨B, j, none⟩) h.lt]; exact h.fr j⟩
theorem Five.far {w : World} {B C i : Nat} {v : Value} {l a x y f : Int} (h : Five w B l a x y f) (n : C ≠ B) : Five (w.setCell ⟨C, i, none⟩ v) B l a x y f :=
  ⟨by simpa [World.setCell] using h.lt, by rw [setc_far n]; exact h.c0, by rw [setc_far n]; exact h.c1, by rw [setc_far n]; exact h.c2, by rw [setc_far n]; exact h.c3, by rw [setc_far n]; exact h.c4, fun j => by rw [World.frozen?_setCell]; exact h.fr j⟩
theorem Five.room {w : World} {B : Nat} {l a x y f : Int} (h : Five w B l a x y f) : Room w B 5 := by
  refine ⟨h.lt, fun j hj => ?_, h.fr⟩
  rcases (show j = 0 ∨ j = 1 ∨ j = 2 ∨ j = 3 ∨ j = 4 by omega) with rfl | rfl | rfl | rfl | rfl
  · exact ⟨_, h.c0⟩
  · exact ⟨_, h.c1⟩
  · exact ⟨_, h.c2⟩
  · exact ⟨_, h.c3⟩
  · exact ⟨_, h.c4⟩
theorem Five.new (w : World) (l a x y f : Int) (t : TypeId) : Five (w.alloc (.cells #[.int .i64 l, .int .i64 a, .int .i64 x, .int .i64 y, .int .i64 f] t)) w.heap.size l a x y f :=
  ⟨by simp, by simp [go_sem], by simp [go_sem], by simp [go_sem], by simp [go_sem], by simp [go_sem], fun j => by simp⟩
/-- The five cells set, one behind the other. -/
abbrev set5 (w : World) (B : Nat) (l a x y f : Int) : World := ((((w.setCell ⟨B, 0, none⟩ (.int .i64 l)).setCell ⟨B, 1, none⟩ (.int .i64 a)).setCell ⟨B, 2, none⟩ (.int .i64 x)).setCell ⟨B, 3, none⟩ (.int .i64 y)).setCell ⟨B, 4, none⟩ (.int .i64 f)
theorem Room.put5 {w : World} {B : Nat} (h : Room w B 5) (l a x y f : Int) : Five (set5 w B l a x y f) B l a x y f := by
  obtain ⟨z0, e0⟩ := h.there 0 (by decide)
  obtain ⟨z1, e1⟩ := (h.set 0 l).there 1 (by decide)
  obtain ⟨z2, e2⟩ := ((h.set 0 l).set 1 a).there 2 (by decide)
  obtain ⟨z3, e3⟩ := (((h.set 0 l).set 1 a).set 2 x).there 3 (by decide)
  obtain ⟨z4, e4⟩ := ((((h.set 0 l).set 1 a).set 2 x).set 3 y).there 4 (by decide)
  refine ⟨(((((h.set 0 l).set 1 a).set 2 x).set 3 y).set 4 f).lt, ?_, ?_, ?_, ?_, ?_, (((((h.set 0 l).set 1 a).set 2 x).set 3 y).set 4 f).fr⟩
  · rw [setc_other (by decide), setc_other (by decide), setc_other (by decide), setc_other (by decide), setc_same e0]
  · rw [setc_other (by decide), setc_other (by decide), setc_other (by decide), setc_same e1]
  · rw [setc_other (by decide), setc_other (by decide), setc_same e2]
  · rw [setc_other (by decide), setc_same e3]
  · rw [setc_same e4]
theorem Five.set0 {w : World} {B : Nat} {l a x y f : Int} (h : Five w B l a x y f) (z : Int) : Five (w.setCell ⟨B, 0, none⟩ (.int .i64 z)) B z a x y f :=
  ⟨by simpa [World.setCell] using h.lt, setc_same h.c0, by rw [setc_other (by decide)]; exact h.c1, by rw [setc_other (by decide)]; exact h.c2, by rw [setc_other (by decide)]; exact h.c3, by rw [setc_other (by decide)]; exact h.c4, fun j => by rw [World.frozen?_setCell]; exact h.fr j⟩
theorem bel_set5 {w a : World} (h : Bel w a) {B : Nat} (hB : w.heap.size ≤ B) (l d x y f : Int) : Bel w (set5 a B l d x y f) :=
  bel_set (bel_set (bel_set (bel_set (bel_set h hB _) hB _) hB _) hB _) hB _

/-- All that was stays as it was, but for one block of the call's own, which keeps its room. -/
structure But (w W : World) (B m : Nat) (w' : World) : Prop where
  b : Bel w w'
  hB : w.heap.size ≤ B
  size : W.heap.size ≤ w'.heap.size
  cell : ∀ c o, c < W.heap.size → c ≠ B → w'.cell? ⟨c, o, none⟩ = W.cell? ⟨c, o, none⟩
  froz : ∀ c o, c < W.heap.size → w'.frozen? ⟨c, o, none⟩ = W.frozen? ⟨c, o, none⟩
  room : Room w' B m
theorem But.start {w W : World} {B m : Nat} (b : Bel w W) (hB : w.heap.size ≤ B) (r : Room W B m) : But w W B m W := ⟨b, hB, Nat.le_refl _, fun _ _ _ _ => rfl, fun _ _ _ => rfl, r⟩
theorem But.bel {w W : World} {B m : Nat} {a b : World} (h : But w W B m a) (k : Bel a b) : But w W B m b :=
  ⟨bel_step h.b k, h.hB, Nat.le_trans h.size k.out.size, fun c o hc hn => by rw [k.out.cell (p := ⟨c, o, none⟩) (Nat.lt_of_lt_of_le hc h.size)]; exact h.cell c o hc hn,
    fun c o hc => by rw [k.out.frozen (p := ⟨c, o, none⟩) (Nat.lt_of_lt_of_le hc h.size)]; exact h.froz c o hc, h.room.bel k⟩
theorem But.drew {w W : World} {B m : Nat} {a : World} (h : But w W B m a) : But w W B m a.drew := h.bel (Bel.drew (Bel.refl _))
theorem But.alloc {w W : World} {B m : Nat} {a : World} (h : But w W B m a) (o : Obj) : But w W B m (a.alloc o) := h.bel (bel_alloc (Bel.refl _) _)
theorem But.set {w W : World} {B m : Nat} {a : World} (h : But w W B m a) (o : Nat) (z : Int) : But w W B m (a.setCell ⟨B, o, none⟩ (.int .i64 z)) :=
  ⟨bel_set h.b h.hB _, h.hB, by simpa [World.setCell] using h.size, fun c i hc hn => by rw [setc_far (Ne.symm hn)]; exact h.cell c i hc hn, fun c i hc => by rw [World.frozen?_setCell]; exact h.froz c i hc, h.room.set o z⟩
theorem But.read {w W : World} {B m : Nat} {a : World} (h : But w W B m a) {c o : Nat} {v : Value} (hc : c < W.heap.size) (hn : c ≠ B) (e : W.cell? ⟨c, o, none⟩ = some v) : a.cell? ⟨c, o, none⟩ = some v := by rw [h.cell c o hc hn]; exact e

theorem But.at {w W : World} {B m : Nat} {a : World} (h : But w W B m a) {C : Nat} {x y : Int} (p : PtAt W C x y) (hn : C ≠ B) : PtAt a C x y :=
  ⟨Nat.lt_of_lt_of_le p.lt h.size, h.read p.lt hn p.c0, h.read p.lt hn p.c1, fun j => by rw [h.froz C j p.lt]; exact p.fr j⟩
theorem PtAt.new (w : World) (x y : Int) (t : TypeId) : PtAt (w.alloc (.cells #[.int .i64 x, .int .i64 y] t)) w.heap.size x y :=
  ⟨by simp, by simp [go_sem], by simp [go_sem], fun j => by simp⟩
theorem bx3_size (t : TypeId) (w : World) (x0 y0 x1 y1 x2 y2 : Int) : (bx3 t w x0 y0 x1 y1 x2 y2).heap.size = w.heap.size + 1 + 1 + 1 := by simp [bx3]

/-! ### The nearest place -/
/-- The far end of a stretch: the row of one point has one to itself. -/
def toI (n i : Nat) : Nat := if i + 1 < n then i + 1 else i
theorem toI_lt {n i : Nat} (h : i < n) : toI n i < n := by unfold toI; split <;> omega
def legX (n : Nat) (X Y : Nat → Int) (px py : Int) (i : Nat) : Int := footX (X i) (Y i) (X (toI n i)) (Y (toI n i)) px py
def legY (n : Nat) (X Y : Nat → Int) (px py : Int) (i : Nat) : Int := footY (X i) (Y i) (X (toI n i)) (Y (toI n i)) px py
def legA (n : Nat) (X Y : Nat → Int) (px py : Int) (i : Nat) : Int := dOf (X i) (Y i) (legX n X Y px py i) (legY n X Y px py i)
def legF (n : Nat) (X Y : Nat → Int) (px py : Int) (i : Nat) : Int := dOf px py (legX n X Y px py i) (legY n X Y px py i)
/-- The stretch that is nearest, of the first k + 1. -/
def bestL (n : Nat) (X Y : Nat → Int) (px py : Int) : Nat → Nat
  | 0 => 0
  | k + 1 => if legF n X Y px py (k + 1) < legF n X Y px py (bestL n X Y px py k) then k + 1 else bestL n X Y px py k
/-- The place behind k stretches. -/
def nrL (n : Nat) (X Y : Nat → Int) (px py : Int) : Nat → Int
  | 0 => -1
  | k + 1 => bestL n X Y px py k
def nrA (n : Nat) (X Y : Nat → Int) (px py : Int) : Nat → Int
  | 0 => 0
  | k + 1 => legA n X Y px py (bestL n X Y px py k)
def nrX (n : Nat) (X Y : Nat → Int) (px py : Int) : Nat → Int
  | 0 => 0
  | k + 1 => legX n X Y px py (bestL n X Y px py k)
def nrY (n : Nat) (X Y : Nat → Int) (px py : Int) : Nat → Int
  | 0 => 0
  | k + 1 => legY n X Y px py (bestL n X Y px py k)
def nrF (n : Nat) (X Y : Nat → Int) (px py : Int) : Nat → Int
  | 0 => 0
  | k + 1 => legF n X Y px py (bestL n X Y px py k)
theorem near_take {n : Nat} {X Y : Nat → Int} {px py : Int} {k : Nat} (h : k = 0 ∨ legF n X Y px py k < nrF n X Y px py k) :
    nrL n X Y px py (k + 1) = k ∧ nrA n X Y px py (k + 1) = legA n X Y px py k ∧ nrX n X Y px py (k + 1) = legX n X Y px py k ∧ nrY n X Y px py (k + 1) = legY n X Y px py k ∧ nrF n X Y px py (k + 1) = legF n X Y px py k := by
  cases k with
  | zero => exact ⟨rfl, rfl, rfl, rfl, rfl⟩
  | succ k =>
    have e : bestL n X Y px py (k + 1) = k + 1 := by
      rcases h with h | h
      · cases h
      · exact if_pos h
    exact ⟨by simp only [nrL, e], by simp only [nrA, e], by simp only [nrX, e], by simp only [nrY, e], by simp only [nrF, e]⟩
theorem near_skip {n : Nat} {X Y : Nat → Int} {px py : Int} {k : Nat} (h0 : k ≠ 0) (h : ¬ legF n X Y px py k < nrF n X Y px py k) :
    nrL n X Y px py (k + 1) = nrL n X Y px py k ∧ nrA n X Y px py (k + 1) = nrA n X Y px py k ∧ nrX n X Y px py (k + 1) = nrX n X Y px py k ∧ nrY n X Y px py (k + 1) = nrY n X Y px py k ∧ nrF n X Y px py (k + 1) = nrF n X Y px py k := by
  cases k with
  | zero => exact absurd rfl h0
  | succ k =>
    have e : bestL n X Y px py (k + 1) = bestL n X Y px py k := if_neg h
    exact ⟨by simp only [nrL, e], by simp only [nrA, e], by simp only [nrX, e], by simp only [nrY, e], by simp only [nrF, e]⟩
theorem nrL_pos {n : Nat} {X Y : Nat → Int} {px py : Int} {k : Nat} (h : k ≠ 0) : 0 ≤ nrL n X Y px py k := by
  cases k with
  | zero => exact absurd rfl h
  | succ k => exact Int.natCast_nonneg _
theorem leg_ok {n : Nat} {X Y : Nat → Int} {px py : Int} {k : Nat} (hok : ∀ i, i < n → POk (X i) (Y i)) (hk : k < n) : POk (legX n X Y px py k) (legY n X Y px py k) := foot_ok (hok k hk) (hok _ (toI_lt hk))
/-- How many stretches a row has. -/
def legs (n : Nat) : Nat := if n ≤ 1 then n else n - 1

end Go.Proofs.Ytkknbapcbcialaa
