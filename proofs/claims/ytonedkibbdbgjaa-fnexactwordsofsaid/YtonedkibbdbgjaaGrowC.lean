/-
  Worlds that are alike but for one block; a set that is added to: contract.
-/
import Derived.Test.YtonedkibbdbgjaaKeyC
import Derived.Deep.LoopGhost
import Derived.OwnWalk
import Derived.Maps.AppendAt
import Derived.Maps.Range
namespace Go.Proofs.Ytonedkibbdbgjaa
open Go.RowKit Go.Maps

theorem grown_of_bel {w w' : World} (h : Bel w w') (row : Option Nat) : w.grownBy w' row := ⟨h.out.os, h.out.tape, h.out.output, h.out.size, fun i hi _ => h.out.block i hi⟩
theorem bel_grow {w a b : World} {row : Option Nat} (h : Bel w a) (g : a.grownBy b row) (hr : ∀ k, row = some k → w.heap.size ≤ k) : Bel w b := Below.grown h g h.out.size hr
theorem grown_step {w a b : World} {row : Option Nat} (h : w.grownBy a row) (k : Bel a b) : w.grownBy b row := h.trans (grown_of_bel k row)
theorem grown_set {w a : World} {C : Nat} (h : w.grownBy a (some C)) (o : Nat) (v : Value) : w.grownBy (a.setCell ⟨C, o, none⟩ v) (some C) :=
  h.trans ⟨rfl, rfl, rfl, by simp [World.setCell], fun i _ hi => Below.heap_setCell a ⟨C, o, none⟩ v i (fun e => hi (by rw [e]))⟩
theorem grown_alike {w w' : World} {C : Nat} (h : w.grownBy w' (some C)) {bs : List Nat} (hs : ∀ x ∈ bs, x < w.heap.size) (hC : C ∉ bs) : Alike w w' bs := by
  intro b hb
  have e : w'.heap[b]? = w.heap[b]? := h.block b (hs b hb) (fun e => hC (by injection e with e; exact e ▸ hb))
  exact ⟨Nat.lt_of_lt_of_le (hs b hb) h.size, fun o => World.cell?_of_block (a := ⟨b, o, none⟩) e, fun o => World.frozen?_of_block (a := ⟨b, o, none⟩) e⟩
theorem Sl.grown {α : Type} {q : Nat} {E : Elem α} (hE : Stays q E) {w w' : World} {C : Nat} {a : Option Addr} {l : List α} {bs : List Nat} (h : Sl q E w a l bs) (hg : w.grownBy w' (some C)) (hC : C ∉ bs) : Sl q E w' a l bs :=
  h.alike hE (grown_alike hg (h.lt hE) hC)
theorem Blk.grown {w w' : World} {C B : Nat} {vs : List Value} (h : Blk w B vs) (hg : w.grownBy w' (some C)) (hne : B ≠ C) : Blk w' B vs := by
  have e : w'.heap[B]? = w.heap[B]? := hg.block B h.lt (fun e => hne (by injection e))
  exact ⟨Nat.lt_of_lt_of_le h.lt hg.size, fun j hj => (World.cell?_of_block (a := ⟨B, j, none⟩) e).trans (h.cell j hj), fun j => (World.frozen?_of_block (a := ⟨B, j, none⟩) e).trans (h.free j)⟩
theorem MapAt.grown {w w' : World} {C b n : Nat} {g : Int → Option Int} (h : MapAt w b n g) (hg : w.grownBy w' (some C)) (hne : b ≠ C) : MapAt w' b n g := by
  obtain ⟨D, h1, h2⟩ := h
  exact ⟨D, h1.kept hg (fun e => hne (by injection e)), h2⟩

end Go.Proofs.Ytonedkibbdbgjaa
