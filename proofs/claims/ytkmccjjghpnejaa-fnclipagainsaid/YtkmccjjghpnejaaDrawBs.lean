/-
  What the model draws as a box: numbers of 64 bits.
-/
import Derived.Test.YtkmccjjghpnejaaDrawB
import Derived.Test.YtkmccjjghpnejaaDrawP
import Derived.Test.YtkmccjjghpnejaaClpN
namespace Go.Proofs.Ytkmccjjghpnejaa
open Go.RowKit

theorem in64_wrap (x : Int) : In64 (IntKind.i64.wrap x) := by rw [IntKind.wrap_i64]; unfold In64; omega
structure CutXs (w0 b : World) (B : Nat) (a : Option Addr) (n c : Nat) (t : Value) (w : World) : Prop where
 out : ∃ (g : Nat) (x y z u : Int), t = .pointer (some ⟨g, 0, none⟩) ∧ b.heap.size ≤ g ∧ Blk w g [.int .i64 x, .int .i64 y, .int .i64 z, .int .i64 u] ∧ Drawn w0 b B a n c w ∧ In64 x ∧ In64 y ∧ In64 z ∧ In64 u
theorem CutXs.put {w0 b w : World} {B : Nat} {a : Option Addr} {n c g : Nat} {x y z u : Int} (h : Vx b w g) (D : Drawn w0 b B a n c w) (h0 : w0.heap.size ≤ b.heap.size) (hB : B < b.heap.size) (h64 : In64 x ∧ In64 y ∧ In64 z ∧ In64 u) :
  CutXs w0 b B a n c (.pointer (some ⟨g, 0, none⟩)) ((((w.setCell ⟨g, 0, none⟩ (.int .i64 x)).setCell ⟨g, 1, none⟩ (.int .i64 y)).setCell ⟨g, 2, none⟩ (.int .i64 z)).setCell ⟨g, 3, none⟩ (.int .i64 u)) := by
 have hl := h.lo
 have k0 : w0.heap.size ≤ g := by omega
 have k1 : g ≠ B := by omega
 exact ⟨g, x, y, z, u, rfl, hl, (((h.x.set 0 _ (by simp)).set 1 _ (by simp)).set 2 _ (by simp)).set 3 _ (by simp), (((D.far k0 hl k1 _ _).far k0 hl k1 _ _).far k0 hl k1 _ _).far k0 hl k1 _ _, h64⟩
theorem CutXs.fresh {w0 b w : World} {B : Nat} {a : Option Addr} {n c : Nat} {x y z u : Int} {t : TypeId} (D : Drawn w0 b B a n c w) (h64 : In64 x ∧ In64 y ∧ In64 z ∧ In64 u) :
  CutXs w0 b B a n c (.pointer (some ⟨w.heap.size, 0, none⟩)) (w.alloc (.cells #[.int .i64 x, .int .i64 y, .int .i64 z, .int .i64 u] t)) :=
 ⟨w.heap.size, x, y, z, u, rfl, D.o.size, Blk.new w [.int .i64 x, .int .i64 y, .int .i64 z, .int .i64 u] t, D.alcB _, h64⟩

end Go.Proofs.Ytkmccjjghpnejaa
