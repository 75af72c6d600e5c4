/-
  What the model draws: points and numbers; contracts that tell no more than the bounds.
-/
import Derived.Test.YtonedkibbdbgjaaCurC
namespace Go.Proofs.Ytonedkibbdbgjaa
open Go.RowKit

theorem Cur.far {w : World} {B : Nat} {a : Option Addr} {n c : Nat} (h : Cur w B a n c) {C : Nat} (hn : C ≠ B) (o : Nat) (u : Value) : Cur (w.setCell ⟨C, o, none⟩ u) B a n c := by
  have e : ∀ j, (w.setCell ⟨C, o, none⟩ u).cell? ⟨B, j, none⟩ = w.cell? ⟨B, j, none⟩ := fun j => World.cell?_setCell_other _ _ _ _ (fun e => hn (congrArg Addr.block e))
  exact ⟨by simpa [World.setCell] using h.lt, by rw [e]; exact h.c0, by rw [e]; exact h.c1, by rw [e]; exact h.c2, fun j => by rw [World.frozen?_setCell]; exact h.fr j⟩
theorem Drawn.far {w0 w : World} {B : Nat} {a : Option Addr} {n c : Nat} {v : World} (h : Drawn w0 w B a n c v) {C : Nat} (h0 : w0.heap.size ≤ C) (h1 : w.heap.size ≤ C) (hn : C ≠ B) (o : Nat) (u : Value) : Drawn w0 w B a n c (v.setCell ⟨C, o, none⟩ u) :=
  ⟨bel_set h.b h0 _, ⟨by simpa [World.setCell] using h.o.size, fun d i hd hB => by rw [World.cell?_setCell_other _ _ _ _ (fun e => by have := congrArg Addr.block e; simp at this; omega)]; exact h.o.cell d i hd hB, fun d i hd hB => by rw [World.frozen?_setCell]; exact h.o.froz d i hd hB, fun d hd hB => (Below.heap_setCell _ _ _ _ (by show d ≠ C; omega)).trans (h.o.obj d hd hB)⟩, h.k.far hn o u⟩
theorem Drawn.bel {w0 w : World} {B : Nat} {a : Option Addr} {n c : Nat} {v u : World} (h : Drawn w0 w B a n c v) (k : Bel v u) : Drawn w0 w B a n c u := ⟨bel_step h.b k, h.o.bel k, h.k.bel k⟩
theorem Drawn.from {w0 w W : World} {B : Nat} {a : Option Addr} {n c : Nat} {v : World} (h : Drawn w0 W B a n c v) (k : Bel w W) : Drawn w0 w B a n c v :=
  ⟨h.b, ⟨Nat.le_trans k.out.size h.o.size, fun d i hd hB => by rw [h.o.cell d i (Nat.lt_of_lt_of_le hd k.out.size) hB, k.out.cell (p := ⟨d, i, none⟩) hd], fun d i hd hB => by rw [h.o.froz d i (Nat.lt_of_lt_of_le hd k.out.size) hB, k.out.frozen (p := ⟨d, i, none⟩) hd], fun d hd hB => (h.o.obj d (Nat.lt_of_lt_of_le hd k.out.size) hB).trans (k.out.block d hd)⟩, h.k⟩

end Go.Proofs.Ytonedkibbdbgjaa
