/-
  What the model draws as a box: any box.
-/
import Derived.Test.YtkmccjjghpnejaaDrawT
import Derived.Test.YtkmccjjghpnejaaCB
import Derived.Deep.RegionHeld3
import Derived.Deep.DeepCutAuto
namespace Go.Proofs.Ytkmccjjghpnejaa
open Go.RowKit

abbrev zer4 : List Value := [.int .i64 0, .int .i64 0, .int .i64 0, .int .i64 0]
theorem Blk.only {w w' : World} {B g : Nat} {vs : List Value} (h : Blk w g vs) (o : OnlyB w B w') (hn : g ≠ B) : Blk w' g vs :=
 ⟨Nat.lt_of_lt_of_le h.lt o.size, fun j hj => (o.cell g j h.lt hn).trans (h.cell j hj), fun j => (o.froz g j h.lt hn).trans (h.free j)⟩
theorem Drawn.drwB {w0 w : World} {B : Nat} {a : Option Addr} {n c : Nat} {v : World} (h : Drawn w0 w B a n c v) : Drawn w0 w B a n c v.drew := h.bel (Bel.drew (Bel.refl _))
theorem Drawn.alcB {w0 w : World} {B : Nat} {a : Option Addr} {n c : Nat} {v : World} (h : Drawn w0 w B a n c v) (o : Obj) : Drawn w0 w B a n c (v.alloc o) := h.bel (bel_alloc (Bel.refl _) _)
theorem below_to {w0 w v : World} {B : Nat} {a : Option Addr} {n c : Nat} (D : Drawn w0 w B a n c v) (hB : w0.heap.size ≤ B) (hS : Bts w0 a n) (hn : n ≤ 1048576) (m : Int) (m0 : 0 < m) (m1 : m ≤ 9223372036854775807) :
  Calls Try.prog 78 #[.pointer (some ⟨B, 0, none⟩), .int .i64 m] v fun e w' => ∃ x : Int, e = .returned (.int .i64 x) ∧ Drawn w0 w B a n c w' ∧ OnlyB v B w' :=
 (below_any B a n c w0 v D.b hB D.k hS hn m m0 m1).mono fun _ _ ⟨x, e, _, d⟩ => ⟨x, e, D.then d, d.o⟩
/-- Where the box that is being made lies. -/
structure Vx (b : World) (w : World) (g : Nat) : Prop where
 x : Blk w g zer4
 lo : b.heap.size ≤ g
theorem Vx.new {b W w : World} {B : Nat} {t : TypeId} (hl : b.heap.size ≤ W.heap.size) (hB : B < b.heap.size) (h : OnlyB (W.alloc (.cells #[.int .i64 0, .int .i64 0, .int .i64 0, .int .i64 0] t)) B w) : Vx b w W.heap.size := ⟨(Blk.new W zer4 t).only h (by omega), hl⟩
theorem Vx.on {b w w' : World} {B g : Nat} (h : Vx b w g) (hB : B < b.heap.size) (o : OnlyB w B w') : Vx b w' g := ⟨h.x.only o (by have := h.lo; omega), h.lo⟩
theorem Vx.cs {b w : World} {g : Nat} (h : Vx b w g) : w.cell? ⟨g, 0, none⟩ = some (.int .i64 0) ∧ w.cell? ⟨g, 1, none⟩ = some (.int .i64 0) ∧ w.cell? ⟨g, 2, none⟩ = some (.int .i64 0) ∧ w.cell? ⟨g, 3, none⟩ = some (.int .i64 0) ∧ w.frozen? ⟨g, 0, none⟩ = false ∧ w.frozen? ⟨g, 1, none⟩ = false ∧ w.frozen? ⟨g, 2, none⟩ = false ∧ w.frozen? ⟨g, 3, none⟩ = false :=
 ⟨h.x.cell 0 (by simp), h.x.cell 1 (by simp), h.x.cell 2 (by simp), h.x.cell 3 (by simp), h.x.free 0, h.x.free 1, h.x.free 2, h.x.free 3⟩
theorem Drawn.setX {w0 b v : World} {B g : Nat} {a : Option Addr} {n c : Nat} (h0 : w0.heap.size ≤ b.heap.size) (hB : B < b.heap.size) (hg : b.heap.size ≤ g) (h : Drawn w0 b B a n c v) (o : Nat) (u : Value) : Drawn w0 b B a n c (v.setCell ⟨g, o, none⟩ u) := h.far (by omega) hg (by omega) o u
structure CutX (w0 b : World) (B : Nat) (a : Option Addr) (n c : Nat) (t : Value) (w : World) : Prop where
 out : ∃ (g : Nat) (x y z u : Int), t = .pointer (some ⟨g, 0, none⟩) ∧ b.heap.size ≤ g ∧ Blk w g [.int .i64 x, .int .i64 y, .int .i64 z, .int .i64 u] ∧ Drawn w0 b B a n c w
theorem CutX.put {w0 b w : World} {B : Nat} {a : Option Addr} {n c g : Nat} {x y z u : Int} (h : Vx b w g) (D : Drawn w0 b B a n c w) (h0 : w0.heap.size ≤ b.heap.size) (hB : B < b.heap.size) :
  CutX w0 b B a n c (.pointer (some ⟨g, 0, none⟩)) ((((w.setCell ⟨g, 0, none⟩ (.int .i64 x)).setCell ⟨g, 1, none⟩ (.int .i64 y)).setCell ⟨g, 2, none⟩ (.int .i64 z)).setCell ⟨g, 3, none⟩ (.int .i64 u)) := by
 have hl := h.lo
 have k0 : w0.heap.size ≤ g := by omega
 have k1 : g ≠ B := by omega
 exact ⟨g, x, y, z, u, rfl, hl, (((h.x.set 0 _ (by simp)).set 1 _ (by simp)).set 2 _ (by simp)).set 3 _ (by simp), (((D.far k0 hl k1 _ _).far k0 hl k1 _ _).far k0 hl k1 _ _).far k0 hl k1 _ _⟩
theorem CutX.fresh {w0 b w : World} {B : Nat} {a : Option Addr} {n c : Nat} {x y z u : Int} {t : TypeId} (D : Drawn w0 b B a n c w) :
  CutX w0 b B a n c (.pointer (some ⟨w.heap.size, 0, none⟩)) (w.alloc (.cells #[.int .i64 x, .int .i64 y, .int .i64 z, .int .i64 u] t)) :=
 ⟨w.heap.size, x, y, z, u, rfl, D.o.size, Blk.new w [.int .i64 x, .int .i64 y, .int .i64 z, .int .i64 u] t, D.alcB _⟩

end Go.Proofs.Ytkmccjjghpnejaa
