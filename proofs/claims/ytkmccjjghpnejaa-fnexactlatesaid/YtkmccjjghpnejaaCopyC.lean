/-
  Copies: the program's and the model's: a list anew, a node, a way, an area with lists of their own: contracts.
-/
import Derived.Test.YtkmccjjghpnejaaGE
import Derived.Deep.RegionHeld3
namespace Go.Proofs.Ytkmccjjghpnejaa
open Go.RowKit Go.Maps


theorem infoCInt : (Try.prog.info? 2).map (fun i => (i.zero, i.size, i.bytes)) = some (some (.int .i64 0), 1, 8) := by kernel_rfl
/-- The answer's own box of n cells, what stood ahead of it as it was. -/
structure So (W : World) (B n : Nat) (w : World) : Prop where
 b : Bel W w
 r : ∃ vs : List Value, vs.length = n ∧ Blk w B vs
theorem So.drew {W : World} {B n : Nat} {w : World} (h : So W B n w) : So W B n w.drew := ⟨h.b.drew, by obtain ⟨vs, e, r⟩ := h.r; exact ⟨vs, e, r.lt, r.cell, r.free⟩⟩
theorem So.bel {W : World} {B n : Nat} {w w' : World} (h : So W B n w) (hb : Bel w w') : So W B n w' := ⟨bel_step h.b hb, by obtain ⟨vs, e, r⟩ := h.r; exact ⟨vs, e, r.bel hb⟩⟩
theorem So.set {W : World} {B n : Nat} {w : World} (h : So W B n w) (hB : W.heap.size ≤ B) (i : Nat) (hi : i < n) (u : Value) : So W B n (w.setCell ⟨B, i, none⟩ u) :=
 ⟨bel_set h.b hB _, by obtain ⟨vs, e, r⟩ := h.r; exact ⟨vs.set i u, by simpa using e, r.set i u (by omega)⟩⟩
theorem setRow_far {w : World} {B o : Nat} (vs : List Value) {bs : List Nat} (hs : ∀ x ∈ bs, x < w.heap.size) (hB : B ∉ bs) : Alike w (setRow w B o vs) bs := setRow_alike vs hs hB
theorem Fresh.alike {v w w' : World} {bs : List Nat} (h : Fresh v w bs) (hA : Alike w w' bs) : Fresh v w' bs :=
 ⟨h.nd, fun b hm => ⟨(h.new b hm).1, (hA b hm).1⟩, fun b hm j => by rw [(hA b hm).2.2 j]; exact h.free b hm j⟩


end Go.Proofs.Ytkmccjjghpnejaa
