/-
  Tiles: which can be, how long their sides are, where they lie. Plain mathematics.
  How data with depth that is handed in is read: a slice's value, and what its cells hold, down to the last text.
  What lies in a box: the question for one point; how a box that is handed in is read and copied.
  Contracts of TileOk and TileBox, in the program and in its model: for every tile.
  Clipping a stretch: plain mathematics.
-/
import Derived.Test.YtldfcnlhjjiihaaGreatGB
import Derived.ProofKit
import Derived.Carry
import Derived.Lib.SmallJoins
import Derived.Deep.Slices
import Derived.Deep.SlicePairs
import Derived.Deep.Strs
import Derived.Test.YtldfcnlhjjiihaaGreatCA
namespace Go.Proofs.YtldfcnlhjjiihaaGreat

def zmB (z : Int) : Bool := decide (0 ≤ z) && decide (z ≤ 10)
/-- How many tiles a zoom has along, and how long a side is. -/
def zN (z : Int) : Nat := 2 ^ z.toNat
def zS (z : Int) : Nat := 2 ^ (25 - z.toNat)
def tilB (z x y : Int) : Bool := zmB z && (decide (0 ≤ x) && (decide (x < zN z) && (decide (0 ≤ y) && decide (y < zN z))))
theorem zm_out {z : Int} (h : zmB z = true) : ∃ Z : Nat, z = Z ∧ Z ≤ 10 := by
 simp only [zmB, Bool.and_eq_true, decide_eq_true_eq] at h
 exact ⟨z.toNat, by omega, by omega⟩
theorem zN_nat (Z : Nat) : zN (Z : Int) = 2 ^ Z := by simp [zN]
theorem zS_nat (Z : Nat) : zS (Z : Int) = 2 ^ (25 - Z) := by simp [zS]
theorem z_cases {Z : Nat} (h : Z ≤ 10) : Z = 0 ∨ Z = 1 ∨ Z = 2 ∨ Z = 3 ∨ Z = 4 ∨ Z = 5 ∨ Z = 6 ∨ Z = 7 ∨ Z = 8 ∨ Z = 9 ∨ Z = 10 := by omega
theorem zNS {z : Int} (h : zmB z = true) : zN z * zS z = 33554432 ∧ 0 < zS z ∧ 0 < zN z ∧ zN z ≤ 1024 ∧ 32768 ≤ zS z ∧ zS z ≤ 33554432 := by
 obtain ⟨Z, rfl, hZ⟩ := zm_out h
 rw [zN_nat, zS_nat]
 rcases z_cases hZ with rfl | rfl | rfl | rfl | rfl | rfl | rfl | rfl | rfl | rfl | rfl <;> decide
theorem zS_div {Z : Nat} (h : Z ≤ 10) : (33554432 : Int) / 2 ^ Z = (zS (Z : Int) : Int) := by
 rw [zS_nat]
 rcases z_cases h with rfl | rfl | rfl | rfl | rfl | rfl | rfl | rfl | rfl | rfl | rfl <;> decide
theorem zN_int (Z : Nat) : ((2 : Int) ^ Z) = (zN (Z : Int) : Int) := by rw [zN_nat]; simp
theorem til_out {z x y : Int} (h : tilB z x y = true) : zmB z = true ∧ 0 ≤ x ∧ x < zN z ∧ 0 ≤ y ∧ y < zN z := by
 simp only [tilB, Bool.and_eq_true, decide_eq_true_eq] at h
 exact h
/-- What a tile's number times its side is. -/
theorem til_mul {z x : Int} (h : zmB z = true) (h0 : 0 ≤ x) (h1 : x < zN z) : 0 ≤ x * zS z ∧ x * zS z + zS z ≤ 33554432 := by
 obtain ⟨e, s0, _⟩ := zNS h
 have a0 : 0 ≤ x * zS z := Int.mul_nonneg h0 (by omega)
 have a1 : (x + 1) * zS z ≤ (zN z : Int) * zS z := Int.mul_le_mul_of_nonneg_right (by omega) (by omega)
 have a2 : (x + 1) * (zS z : Int) = x * zS z + zS z := by rw [Int.add_mul, Int.one_mul]
 have a3 : (zN z : Int) * zS z = 33554432 := by rw [← Int.natCast_mul, e]; rfl
 omega
/-- A tile's box: its first numbers; how long it is. -/
def tbA (z x : Int) : Int := x * zS z - 16777216
theorem tbA_bd {z x : Int} (h : zmB z = true) (h0 : 0 ≤ x) (h1 : x < zN z) : -16777216 ≤ tbA z x ∧ tbA z x + zS z ≤ 16777216 := by
 have := til_mul h h0 h1
 unfold tbA
 omega
end Go.Proofs.YtldfcnlhjjiihaaGreat

namespace Go.Proofs.YtldfcnlhjjiihaaGreat
open Go.ChangeShapes Go.WideShapes Go.ChangeAt Go.RowKit Go.Deep Go.Joins

theorem in64_of_wf {x : Int} (h : (Lit.int .i64 x).wf = true) : In64 x := by
 simp [Lit.wf, IntKind.min, IntKind.max, IntKind.signed, IntKind.bits] at h
 exact ⟨by omega, by omega⟩

section
variable {H : Type} {enc : TypeId × Value → H} {P : Program} {W : World} {base : Nat} {spare : Nat → Bool} {held : Bool}

/-- A slice of whatever elements: each as the given reading says. -/
theorem open_sl {α : Type} [Inhabited α] {q : Nat} {E : Elem α} {t e : TypeId} (hq : 0 < q) (ht : P.underlying t = some (.slice e)) (ce : P.cellsOf e = q)
  (hel : ∀ (b o n : Nat) (cs : List Value) (x : DataW H × List MemPlace), cs.length = q → (∀ j (h : j < cs.length), W.cell? ⟨b, o + j, none⟩ = some cs[j]) → DataW.trod enc P W base spare held n e cs = some x → ∃ d bs, E W b o d bs)
  {fuel : Nat} {cs : List Value} {x : DataW H × List MemPlace} (h : DataW.trod enc P W base spare held fuel t cs = some x) :
  ∃ a c l bs, cs = [.slice a l.length c] ∧ Sl q E W a l bs ∧ l.length ≤ maxLen := by
 rcases open_slice ht h with ⟨hcs, _⟩ | ⟨a, len, cap, m, n, D, Pl, hcs, _, hl, hm, hmm, _, hx⟩
 ·exact ⟨none, 0, [], [], hcs, .inl ⟨rfl, rfl⟩, by simp⟩
 ·have hlm : len ≤ m := by rw [hmm]; split <;> omega
  by_cases h0 : len = 0
  ·subst h0
   exact ⟨some a, cap, [], [], hcs, .inl ⟨rfl, rfl⟩, by simp⟩
  ·obtain ⟨b, off, spot⟩ := a
   have key : ∀ i, i < len → ∃ cs' : List Value, cs'.length = q ∧ (∀ j (h : j < cs'.length), W.cell? ((Addr.add ⟨b, off, spot⟩ (i * q)).add j) = some cs'[j]) ∧ DataW.trod enc P W base spare held n e cs' = some (D i, Pl i) := fun i hi => by
    obtain ⟨cs', h1, h2⟩ := hx i (by omega)
    rw [ce] at h1
    obtain ⟨_, hlen, hcell⟩ := World.cells?_some h1
    exact ⟨cs', hlen, fun j hj => by rw [hcell j (by omega)]; simp, h2⟩
   have hspot : spot = none := by
    obtain ⟨cs', h1, h2, _⟩ := key 0 (by omega)
    have := h2 0 (by omega)
    simpa [Addr.add] using World.cell?_spot this
   subst hspot
   have key2 : ∀ i, i < len → ∃ p : α × List Nat, E W b (off + i * q) p.1 p.2 := fun i hi => by
    obtain ⟨cs', h1, h2, h3⟩ := key i hi
    obtain ⟨d, bs, hd⟩ := hel b (off + i * q) n cs' _ h1 (fun j hj => by have := h2 j hj; rw [add_add, add_plain] at this; rw [Nat.add_assoc]; exact this) h3
    exact ⟨(d, bs), hd⟩
   obtain ⟨f, hf⟩ := choose_lt key2
   have hlen : ((List.range len).map fun i => (f i).1).length = len := by simp
   refine ⟨_, cap, (List.range len).map fun i => (f i).1, _, by rw [hlen]; exact hcs, .inr ⟨b, off, fun i => (f i).2, rfl, ?_, rfl, fun i hi => ?_⟩, by rw [hlen]; omega⟩
   ·obtain ⟨cs', h1, h2, _⟩ := key 0 (by omega)
    have := World.block_lt_of_cell? W _ (h2 0 (by omega))
    simpa [Addr.add] using this
   ·rw [hlen] at hi
    simpa using hf i hi
end

instance : Inhabited TagD := ⟨⟨⟨#[]⟩, ⟨#[]⟩⟩⟩
instance : Inhabited PartD := ⟨⟨0, false⟩⟩
instance : Inhabited NodeD := ⟨⟨0, 0, 0, []⟩⟩
instance : Inhabited WayD := ⟨⟨0, [], []⟩⟩
instance : Inhabited AreaD := ⟨⟨0, [], []⟩⟩

section
variable {H : Type} {enc : TypeId × Value → H} {W : World} {base : Nat} {spare : Nat → Bool} {held : Bool}
theorem cellsStr : Tryz.prog.cellsOf 9 = 1 := by kernel_rfl
theorem cellsI64 : Tryz.prog.cellsOf 2 = 1 := by kernel_rfl
theorem cellsTag : Tryz.prog.cellsOf 192 = 2 := by kernel_rfl
set_option maxRecDepth 100000 in
theorem openTags {fuel : Nat} {cs : List Value} {x : DataW H × List MemPlace} (h : DataW.trod enc Tryz.prog W base spare held fuel 91 cs = some x) :
  ∃ a c l bs, cs = [.slice a l.length c] ∧ Tags W a l bs ∧ l.length ≤ maxLen := by
 refine open_sl (by decide) Tryz.underlying91 cellsTag ?_ h
 intro b o n cs x hl hc hx
 obtain ⟨y0, y1, m, _, _, g0, g1⟩ := trod_struct2 Tryz.underlying192 hx
 match cs, hl with
 | [v0, v1], _ =>
  obtain ⟨s0, e0, _, z0⟩ := DataW.trod_string (t := 9) Tryz.underlying9 g0
  obtain ⟨s1, e1, _, z1⟩ := DataW.trod_string (t := 9) Tryz.underlying9 g1
  have e0 : v0 = .string s0 := by simpa [cellsStr] using e0
  have e1 : v1 = .string s1 := by simpa [cellsStr] using e1
  rw [e0, e1] at hc
  exact ⟨⟨s0, s1⟩, [], rfl, z0, z1, hc 0 (by simp), hc 1 (by simp)⟩
end

end Go.Proofs.YtldfcnlhjjiihaaGreat

namespace Go.Proofs.YtldfcnlhjjiihaaGreat
open Go.ChangeShapes Go.WideShapes Go.ChangeAt Go.RowKit Go.Deep Go.Joins

structure BoxD where
 a : Int
 b : Int
 c : Int
 d : Int
def ptB (q : BoxD) (x y : Int) : Bool := decide (q.a ≤ x) && (decide (x ≤ q.c) && (decide (q.b ≤ y) && decide (y ≤ q.d)))
theorem cellsLPt : Tryz.prog.cellsOf 90 = 2 := by kernel_rfl
set_option maxHeartbeats 1000000 in
theorem holds_any (q : BoxD) (x y : Int) (w : World) :
  Calls Tryz.prog 103 #[.agg #[.int .i64 q.a, .int .i64 q.b, .int .i64 q.c, .int .i64 q.d], .agg #[.int .i64 x, .int .i64 y]] w fun e w' => e = .returned (.bool (ptB q x y)) ∧ Bel w w' := by
 have hB : Bel w ((w.alloc (.cells #[.int .i64 q.a, .int .i64 q.b, .int .i64 q.c, .int .i64 q.d] 63)).alloc (.cells #[.int .i64 x, .int .i64 y] 61)) := bel_alloc (bel_alloc (Bel.refl _) _) _
 obtain ⟨r, Hr⟩ : ∃ r, Hid (ptB q x y = r) := ⟨_, (rfl : ptB q x y = _)⟩
 rw [Hr.out]
 by_cases h1 : q.a ≤ x <;> by_cases h2 : x ≤ q.c <;> by_cases h3 : q.b ≤ y <;> by_cases h4 : y ≤ q.d <;> (
  have HE : Hid (r = (decide (q.a ≤ x) && (decide (x ≤ q.c) && (decide (q.b ≤ y) && decide (y ≤ q.d))))) := Hr.out.symm
  go_enter Tryz.func103, Tryz.ntmps103
  go_wp2
  go_ret
  exact ⟨ret_bl (by rw [HE.out]; simp [h1, h2, h3, h4]), hB⟩)

set_option maxHeartbeats 1000000 in
theorem l2In_any (q : BoxD) (x y : Int) (w : World) :
  Calls Tryz.prog 50 #[.agg #[.int .i64 q.a, .int .i64 q.b, .int .i64 q.c, .int .i64 q.d], .agg #[.int .i64 x, .int .i64 y]] w fun e w' => e = .returned (.bool (ptB q x y)) ∧ Bel w w' := by
 have hB : Bel w ((w.alloc (.cells #[.int .i64 q.a, .int .i64 q.b, .int .i64 q.c, .int .i64 q.d] 63)).alloc (.cells #[.int .i64 x, .int .i64 y] 61)) := bel_alloc (bel_alloc (Bel.refl _) _) _
 obtain ⟨r, Hr⟩ : ∃ r, Hid (ptB q x y = r) := ⟨_, (rfl : ptB q x y = _)⟩
 rw [Hr.out]
 by_cases h1 : q.a ≤ x <;> by_cases h2 : x ≤ q.c <;> by_cases h3 : q.b ≤ y <;> by_cases h4 : y ≤ q.d <;> (
  have HE : Hid (r = (decide (q.a ≤ x) && (decide (x ≤ q.c) && (decide (q.b ≤ y) && decide (y ≤ q.d))))) := Hr.out.symm
  go_enter Tryz.func50, Tryz.ntmps50
  go_wp2
  go_ret
  exact ⟨ret_bl (by rw [HE.out]; simp [h1, h2, h3, h4]), hB⟩)

end Go.Proofs.YtldfcnlhjjiihaaGreat

namespace Go.Proofs.YtldfcnlhjjiihaaGreat
open Go.RowKit

/-- A tile as a value. -/
abbrev til (z x y : Int) : Value := .agg #[.int .i64 z, .int .i64 x, .int .i64 y]
/-- A box as a value. -/
abbrev bxv (q : BoxD) : Value := .agg #[.int .i64 q.a, .int .i64 q.b, .int .i64 q.c, .int .i64 q.d]
/-- The box of a tile. -/
def tbx (z x y : Int) : BoxD := if tilB z x y = true then ⟨tbA z x, tbA z y, tbA z x + zS z, tbA z y + zS z⟩ else ⟨0, 0, 0, 0⟩
theorem tbx_no {z x y : Int} (h : tilB z x y = false) : tbx z x y = ⟨0, 0, 0, 0⟩ := if_neg (by rw [h]; exact Bool.false_ne_true)
theorem tbx_yes {z x y : Int} (h : tilB z x y = true) : tbx z x y = ⟨tbA z x, tbA z y, tbA z x + zS z, tbA z y + zS z⟩ := if_pos h

theorem zoomOk_any (z : Int) (w : World) :
  Calls Tryz.prog 57 #[.int .i64 z] w fun e w' => e = .returned (.bool (zmB z)) ∧ w' = w := by
 obtain ⟨r, Hr⟩ : ∃ r, Hid (zmB z = r) := ⟨_, (rfl : zmB z = _)⟩
 rw [Hr.out]
 by_cases h1 : 0 ≤ z <;> by_cases h2 : z ≤ 10 <;> (
  have HE : Hid (r = (decide (0 ≤ z) && decide (z ≤ 10))) := Hr.out.symm
  go_enter Tryz.func57, Tryz.ntmps57
  go_wp2
  go_ret
  exact ⟨ret_bl (by rw [HE.out]; simp [h1, h2]), rfl⟩)

set_option maxHeartbeats 1000000 in
theorem tileOk_any (z x y : Int) (w : World) :
  Calls Tryz.prog 27 #[til z x y] w fun e w' => e = .returned (.bool (tilB z x y)) ∧ Bel w w' := by
 have hB : Bel w (w.alloc (.cells #[.int .i64 z, .int .i64 x, .int .i64 y] 30)) := bel_alloc (Bel.refl _) _
 obtain ⟨r, Hr⟩ : ∃ r, Hid (tilB z x y = r) := ⟨_, (rfl : tilB z x y = _)⟩
 rw [Hr.out]
 cases hz : zmB z
 ·have HE : Hid (r = false) := by rw [← Hr.out]; unfold tilB; rw [hz]; rfl
  go_enter Tryz.func27, Tryz.ntmps27
  go_wp2_with fail
  refine (zoomOk_any _ _).mono ?_
  rintro e w1 ⟨rfl, rfl⟩
  rw [hz]
  go_wp2
  go_ret
  exact ⟨ret_bl HE.out.symm, hB⟩
 ·have n1 := (zNS hz).2.2.2.1
  have HE : Hid (r = (decide (0 ≤ x) && (decide (x < zN z) && (decide (0 ≤ y) && decide (y < zN z))))) := by rw [← Hr.out]; unfold tilB; rw [hz]; rfl
  have Hz : Hid (zmB z = true) := hz
  obtain ⟨Z, rfl, hZ⟩ := zm_out hz
  have hn := zN_int Z
  obtain ⟨n, Hn⟩ : ∃ n, Hid (zN (Z : Int) = n) := ⟨_, (rfl : zN (Z : Int) = _)⟩
  rw [Hn.out] at hn n1 HE
  have hw : IntKind.i64.wrap (n : Int) = n := by rw [IntKind.wrap_i64]; omega
  clear hz
  by_cases h1 : 0 ≤ x <;> by_cases h2 : x < n <;> by_cases h3 : 0 ≤ y <;> by_cases h4 : y < n <;> first | (exfalso; omega) | (
   go_enter Tryz.func27, Tryz.ntmps27
   go_wp2_with fail
   refine (zoomOk_any _ _).mono ?_
   rintro e w1 ⟨rfl, rfl⟩
   rw [Hz.out]
   go_wp2
   go_ret
   exact ⟨ret_bl (by rw [HE.out]; simp [h1, h2, h3, h4]), hB⟩)

set_option maxHeartbeats 1000000 in
theorem specTileOk_any (z x y : Int) (w : World) :
  Calls Tryz.prog 18 #[til z x y] w fun e w' => e = .returned (.bool (tilB z x y)) ∧ Bel w w' := by
 have hB : Bel w (w.alloc (.cells #[.int .i64 z, .int .i64 x, .int .i64 y] 30)) := bel_alloc (Bel.refl _) _
 obtain ⟨r, Hr⟩ : ∃ r, Hid (tilB z x y = r) := ⟨_, (rfl : tilB z x y = _)⟩
 rw [Hr.out]
 cases hz : zmB z
 ·have HE : Hid (r = false) := by rw [← Hr.out]; unfold tilB; rw [hz]; rfl
  have hz' : ¬ (0 ≤ z ∧ z ≤ 10) := fun h => by simp [zmB, h.1, h.2] at hz
  by_cases h1 : z < 0
  ·go_enter Tryz.func18, Tryz.ntmps18
   go_wp2
   go_ret
   exact ⟨ret_bl HE.out.symm, hB⟩
  ·have h2 : 10 < z := by omega
   go_enter Tryz.func18, Tryz.ntmps18
   go_wp2
   go_ret
   exact ⟨ret_bl HE.out.symm, hB⟩
 ·have n1 := (zNS hz).2.2.2.1
  have HE : Hid (r = (decide (0 ≤ x) && (decide (x < zN z) && (decide (0 ≤ y) && decide (y < zN z))))) := by rw [← Hr.out]; unfold tilB; rw [hz]; rfl
  obtain ⟨Z, rfl, hZ⟩ := zm_out hz
  have hn := zN_int Z
  obtain ⟨n, Hn⟩ : ∃ n, Hid (zN (Z : Int) = n) := ⟨_, (rfl : zN (Z : Int) = _)⟩
  rw [Hn.out] at hn n1 HE
  have hw : IntKind.i64.wrap (n : Int) = n := by rw [IntKind.wrap_i64]; omega
  clear hz
  by_cases h1 : 0 ≤ x <;> by_cases h2 : x < n <;> by_cases h3 : 0 ≤ y <;> by_cases h4 : y < n <;> first | (exfalso; omega) | (
   go_enter Tryz.func18, Tryz.ntmps18
   go_wp2
   go_ret
   exact ⟨ret_bl (by rw [HE.out]; simp [h1, h2, h3, h4]), hB⟩)

theorem sideAt_any (z : Int) (w : World) (hz : zmB z = true) :
  Calls Tryz.prog 101 #[.int .i64 z] w fun e w' => e = .returned (.int .i64 (zS z)) ∧ w' = w := by
 obtain ⟨Z, rfl, hZ⟩ := zm_out hz
 have hd := zS_div hZ
 clear hz
 go_enter Tryz.func101, Tryz.ntmps101
 go_wp2
 go_ret
 exact ⟨rfl, rfl⟩
theorem l6Side_any (z : Int) (w : World) (hz : zmB z = true) :
  Calls Tryz.prog 49 #[.int .i64 z] w fun e w' => e = .returned (.int .i64 (zS z)) ∧ w' = w := by
 obtain ⟨Z, rfl, hZ⟩ := zm_out hz
 have hd := zS_div hZ
 clear hz
 go_enter Tryz.func49, Tryz.ntmps49
 go_wp2
 go_ret
 exact ⟨rfl, rfl⟩
end Go.Proofs.YtldfcnlhjjiihaaGreat

namespace Go.Proofs.YtldfcnlhjjiihaaGreat
open Go.RowKit

/-- Where a stretch meets X = e: its Y. -/
def mtX (ax ay bx b_y e : Int) : Int := if bx < ax then b_y + (e - bx) * (ay - b_y) / (ax - bx) else ay + (e - ax) * (b_y - ay) / (bx - ax)
theorem mt_half {ax ay bx b_y e : Int} (h : ax < bx) (h0 : ax ≤ e) (h1 : e ≤ bx) : min ay b_y ≤ ay + (e - ax) * (b_y - ay) / (bx - ax) ∧ ay + (e - ax) * (b_y - ay) / (bx - ax) ≤ max ay b_y := by
 have hd : 0 < bx - ax := by omega
 rcases Int.le_total 0 (b_y - ay) with hy | hy
 ·have a1 : 0 ≤ (e - ax) * (b_y - ay) / (bx - ax) := Int.ediv_nonneg (Int.mul_nonneg (by omega) hy) (by omega)
  have a2 : (e - ax) * (b_y - ay) ≤ (bx - ax) * (b_y - ay) := Int.mul_le_mul_of_nonneg_right (by omega) hy
  have a3 := Int.ediv_le_ediv hd a2
  rw [Int.mul_comm (bx - ax), Int.mul_ediv_cancel _ (by omega)] at a3
  omega
 ·have a1 : (e - ax) * (b_y - ay) / (bx - ax) ≤ 0 := by
   have : (e - ax) * (b_y - ay) ≤ 0 := Int.mul_nonpos_of_nonneg_of_nonpos (by omega) hy
   have := Int.ediv_le_ediv hd this
   rw [Int.zero_ediv] at this
   exact this
  have a2 : (bx - ax) * (b_y - ay) ≤ (e - ax) * (b_y - ay) := Int.mul_le_mul_of_nonpos_right (by omega) hy
  have a3 := Int.ediv_le_ediv hd a2
  rw [Int.mul_comm (bx - ax), Int.mul_ediv_cancel _ (by omega)] at a3
  omega
/-- The crossing lies between the ends. -/
theorem mtX_in {ax ay bx b_y e : Int} (hne : ax ≠ bx) (h0 : min ax bx ≤ e) (h1 : e ≤ max ax bx) : min ay b_y ≤ mtX ax ay bx b_y e ∧ mtX ax ay bx b_y e ≤ max ay b_y := by
 unfold mtX
 split
 ·have := mt_half (ax := bx) (ay := b_y) (bx := ax) (b_y := ay) (e := e) (by omega) (by omega) (by omega)
  omega
 ·exact mt_half (by omega) (by omega) (by omega)

/-- What is left of a stretch. -/
structure StD where
 px : Int
 py : Int
 qx : Int
 qy : Int
/-- A place lies beyond an edge: the lower X, the upper X, the lower Y, the upper Y. -/
def outB (i : Nat) (e x y : Int) : Bool := match i with
 | 0 => decide (x < e)
 | 1 => decide (e < x)
 | 2 => decide (y < e)
 | _ => decide (e < y)
/-- The edges of a box. -/
def edgB (q : BoxD) (i : Nat) : Int := match i with
 | 0 => q.a
 | 1 => q.c
 | 2 => q.b
 | _ => q.d
def crsX (i : Nat) (e ax ay bx b_y : Int) : Int := if i < 2 then e else mtX ay ax b_y bx e
def crsY (i : Nat) (e ax ay bx b_y : Int) : Int := if i < 2 then mtX ax ay bx b_y e else e
/-- One edge. -/
def stpE (i : Nat) (e ax ay bx b_y : Int) (s : StD) : Option StD :=
 if outB i e s.px s.py && outB i e s.qx s.qy then none
 else some ⟨if outB i e s.px s.py then crsX i e ax ay bx b_y else s.px, if outB i e s.px s.py then crsY i e ax ay bx b_y else s.py, if outB i e s.qx s.qy then crsX i e ax ay bx b_y else s.qx, if outB i e s.qx s.qy then crsY i e ax ay bx b_y else s.qy⟩
/-- The first i edges. -/
def stpT (q : BoxD) (ax ay bx b_y : Int) : Nat → Option StD
 | 0 => some ⟨ax, ay, bx, b_y⟩
 | i + 1 => (stpT q ax ay bx b_y i).bind (stpE i (edgB q i) ax ay bx b_y)
/-- Both ends lie between those of the stretch. -/
structure Btw (ax ay bx b_y : Int) (s : StD) : Prop where
 x0 : min ax bx ≤ s.px ∧ s.px ≤ max ax bx
 y0 : min ay b_y ≤ s.py ∧ s.py ≤ max ay b_y
 x1 : min ax bx ≤ s.qx ∧ s.qx ≤ max ax bx
 y1 : min ay b_y ≤ s.qy ∧ s.qy ≤ max ay b_y
/-- Where one end lies beyond an edge and the other does not, the edge goes through the stretch. -/
theorem btw_cross {ax ay bx b_y e : Int} {s : StD} (h : Btw ax ay bx b_y s) {i : Nat} (ho : outB i e s.px s.py ≠ outB i e s.qx s.qy) :
  (i < 2 → ax ≠ bx ∧ min ax bx ≤ e ∧ e ≤ max ax bx) ∧ (2 ≤ i → ay ≠ b_y ∧ min ay b_y ≤ e ∧ e ≤ max ay b_y) := by
 obtain ⟨x0, y0, x1, y1⟩ := h
 rcases (show i = 0 ∨ i = 1 ∨ i = 2 ∨ 3 ≤ i by omega) with rfl | rfl | rfl | hi
 ·refine ⟨fun _ => ?_, fun h => by omega⟩
  simp only [outB] at ho
  by_cases h1 : s.px < e <;> by_cases h2 : s.qx < e <;> simp [h1, h2] at ho <;> omega
 ·refine ⟨fun _ => ?_, fun h => by omega⟩
  simp only [outB] at ho
  by_cases h1 : e < s.px <;> by_cases h2 : e < s.qx <;> simp [h1, h2] at ho <;> omega
 ·refine ⟨fun h => by omega, fun _ => ?_⟩
  simp only [outB] at ho
  by_cases h1 : s.py < e <;> by_cases h2 : s.qy < e <;> simp [h1, h2] at ho <;> omega
 ·refine ⟨fun h => by omega, fun _ => ?_⟩
  have eo : ∀ x y, outB i e x y = decide (e < y) := fun x y => by
   obtain ⟨j, rfl⟩ : ∃ j, i = j + 3 := ⟨i - 3, by omega⟩
   rfl
  rw [eo, eo] at ho
  by_cases h1 : e < s.py <;> by_cases h2 : e < s.qy <;> simp [h1, h2] at ho <;> omega
theorem crs_btw {ax ay bx b_y e : Int} {i : Nat} (h : (i < 2 → ax ≠ bx ∧ min ax bx ≤ e ∧ e ≤ max ax bx) ∧ (2 ≤ i → ay ≠ b_y ∧ min ay b_y ≤ e ∧ e ≤ max ay b_y)) :
  (min ax bx ≤ crsX i e ax ay bx b_y ∧ crsX i e ax ay bx b_y ≤ max ax bx) ∧ min ay b_y ≤ crsY i e ax ay bx b_y ∧ crsY i e ax ay bx b_y ≤ max ay b_y := by
 unfold crsX crsY
 by_cases hi : i < 2
 ·rw [if_pos hi, if_pos hi]
  obtain ⟨h1, h2, h3⟩ := h.1 hi
  exact ⟨⟨h2, h3⟩, mtX_in h1 h2 h3⟩
 ·rw [if_neg hi, if_neg hi]
  obtain ⟨h1, h2, h3⟩ := h.2 (by omega)
  exact ⟨mtX_in h1 h2 h3, ⟨h2, h3⟩⟩
theorem stp_btw {ax ay bx b_y e : Int} {i : Nat} {s t : StD} (h : Btw ax ay bx b_y s) (ht : stpE i e ax ay bx b_y s = some t) : Btw ax ay bx b_y t := by
 unfold stpE at ht
 split at ht
 ·cases ht
 ·next hn =>
  cases hp : outB i e s.px s.py <;> cases hq : outB i e s.qx s.qy <;> rw [hp, hq] at ht hn
  ·injection ht with ht; subst ht; exact h
  ·injection ht with ht; subst ht
   have c := crs_btw (btw_cross h (i := i) (e := e) (by rw [hp, hq]; decide))
   exact ⟨h.x0, h.y0, c.1, c.2⟩
  ·injection ht with ht; subst ht
   have c := crs_btw (btw_cross h (i := i) (e := e) (by rw [hp, hq]; decide))
   exact ⟨c.1, c.2, h.x1, h.y1⟩
  ·exact absurd rfl hn
theorem stpT_btw {q : BoxD} {ax ay bx b_y : Int} : ∀ i s, stpT q ax ay bx b_y i = some s → Btw ax ay bx b_y s
 | 0, s, h => by injection h with h; subst h; exact ⟨by dsimp only; omega, by dsimp only; omega, by dsimp only; omega, by dsimp only; omega⟩
 | i + 1, s, h => by
  simp only [stpT] at h
  cases e : stpT q ax ay bx b_y i with
  | none => rw [e] at h; cases h
  | some t => rw [e] at h; exact stp_btw (stpT_btw i t e) h
/-- Brought into a span. -/
def clm (x lo hi : Int) : Int := max lo (min x hi)
/-- What of a stretch lies in the box, where it counts. -/
def strC (q : BoxD) (ax ay bx b_y : Int) : Option StD :=
 (stpT q ax ay bx b_y 4).bind fun s =>
  let t : StD := ⟨clm s.px q.a q.c, clm s.py q.b q.d, clm s.qx q.a q.c, clm s.qy q.b q.d⟩
  if (t.px = t.qx ∧ t.py = t.qy) ∧ ¬ (ax = bx ∧ ay = b_y) then none else some t
end Go.Proofs.YtldfcnlhjjiihaaGreat
