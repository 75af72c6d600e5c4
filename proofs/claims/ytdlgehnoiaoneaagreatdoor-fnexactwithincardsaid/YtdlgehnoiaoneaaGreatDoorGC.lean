/-
  Maps of the call's own, as functions: what is looked up, what is put; sets of Ids.
  Worlds that are alike but for one block; a set that is added to: contract.
  Contracts of what is asked of every node and of every way: for every list.
  Contract of what is asked of an area: for every area.
-/
import Derived.Test.YtdlgehnoiaoneaaGreatDoorGB
import Derived.Maps.OwnSet
import Derived.Maps.OwnOps
import Derived.Deep.LoopGhost
import Derived.OwnWalk
import Derived.Maps.AppendAt
import Derived.Maps.Range
namespace Go.Proofs.YtdlgehnoiaoneaaGreatDoor
open Go.RowKit Go.Maps

theorem lawI : Keyed Tryz.prog 2 := int_keyed Tryz.underlying2
theorem zeroI (w : World) : (zeroValue 3).run Tryz.prog w = .ok (.int .i64 0) w := by kernel_rfl
theorem wf_in {x : Int} (h : In64 x) : (Lit.int .i64 x).wf = true := by
  obtain ⟨h1, h2⟩ := h
  simp [Lit.wf, IntKind.min, IntKind.max, IntKind.signed, IntKind.bits]
  omega
theorem keyI {x : Int} (h : In64 x) : keyOf Tryz.prog 2 (.int .i64 x) = some (kI x) := keyOf_int_mk Tryz.underlying2 (wf_in h)
theorem kI_key (x : Int) : WideAt.IsKeyLit (kI x) := trivial
theorem kI_ne {x y : Int} (h : x ≠ y) : kI x ≠ kI y := fun e => h (by injection e)

/-- A map from Ids to places: at x it has what g says. -/
def MapAt (w : World) (b n : Nat) (g : Int → Option Int) : Prop :=
  ∃ D : DataW Unit, w.ownsMap Tryz.prog 2 (plainElem Tryz.prog 3) b n D ∧ ∀ x, Maps.has D (kI x) = (g x).isSome ∧ D.atKey (kI x) (.lit (.int .i64 0)) = .lit (.int .i64 ((g x).getD 0))
theorem MapAt.new (w : World) : MapAt (w.alloc (.map #[] 0)) w.heap.size 0 (fun _ => none) :=
  ⟨.map [], World.ownsMap_made w _ _ _, fun _ => ⟨rfl, rfl⟩⟩
theorem ownsMap_bel {w w' : World} {P : Program} {k : TypeId} {R : Value → Option (DataW Unit × List MemPlace)} {b n : Nat} {D : DataW Unit} (h : w.ownsMap P k R b n D) (hb : Bel w w') : w'.ownsMap P k R b n D := by
  have hl := h.lt
  obtain ⟨es, clock, h1, h2⟩ := h
  exact ⟨es, clock, by rw [hb.out.block b hl]; exact h1, h2⟩
theorem MapAt.bel {w w' : World} {b n : Nat} {g : Int → Option Int} (h : MapAt w b n g) (hb : Bel w w') : MapAt w' b n g := by
  obtain ⟨D, h1, h2⟩ := h
  exact ⟨D, ownsMap_bel h1 hb, h2⟩
theorem MapAt.lt {w : World} {b n : Nat} {g : Int → Option Int} (h : MapAt w b n g) : b < w.heap.size := by
  obtain ⟨D, h1, _⟩ := h; exact h1.lt
/-- A set of Ids. -/
def SetAt (w : World) (b n : Nat) (s : Int → Prop) : Prop :=
  ∃ D : DataW Unit, w.ownsMap Tryz.prog 2 unitElem b n D ∧ ∀ x, Maps.has D (kI x) = bP (s x)
theorem SetAt.new (w : World) : SetAt (w.alloc (.map #[] 0)) w.heap.size 0 (fun _ => False) :=
  ⟨.map [], World.ownsMap_made w _ _ _, fun _ => (bP_false fun h => h).symm⟩
theorem SetAt.bel {w w' : World} {b n : Nat} {s : Int → Prop} (h : SetAt w b n s) (hb : Bel w w') : SetAt w' b n s := by
  obtain ⟨D, h1, h2⟩ := h
  exact ⟨D, ownsMap_bel h1 hb, h2⟩
theorem SetAt.lt {w : World} {b n : Nat} {s : Int → Prop} (h : SetAt w b n s) : b < w.heap.size := by
  obtain ⟨D, h1, _⟩ := h; exact h1.lt
theorem zeroU (w : World) : (zeroValue 138).run Tryz.prog w = .ok (.agg #[]) w := by kernel_rfl
end Go.Proofs.YtdlgehnoiaoneaaGreatDoor

namespace Go.Proofs.YtdlgehnoiaoneaaGreatDoor
open Go.RowKit Go.Maps

theorem grown_of_bel {w w' : World} (h : Bel w w') (row : Option Nat) : w.grownBy w' row := ⟨h.out.os, h.out.tape, h.out.output, h.out.size, fun i hi _ => h.out.block i hi⟩
theorem bel_grow {w a b : World} {row : Option Nat} (h : Bel w a) (g : a.grownBy b row) (hr : ∀ k, row = some k → w.heap.size ≤ k) : Bel w b := Below.grown h g h.out.size hr
theorem grown_step {w a b : World} {row : Option Nat} (h : w.grownBy a row) (k : Bel a b) : w.grownBy b row := h.trans (grown_of_bel k row)
theorem grown_alike {w w' : World} {C : Nat} (h : w.grownBy w' (some C)) {bs : List Nat} (hs : ∀ x ∈ bs, x < w.heap.size) (hC : C ∉ bs) : Alike w w' bs := by
  intro b hb
  have e : w'.heap[b]? = w.heap[b]? := h.block b (hs b hb) (fun e => hC (by injection e with e; exact e ▸ hb))
  exact ⟨Nat.lt_of_lt_of_le (hs b hb) h.size, fun o => World.cell?_of_block (a := ⟨b, o, none⟩) e, fun o => World.frozen?_of_block (a := ⟨b, o, none⟩) e⟩
theorem Sl.grown {α : Type} {q : Nat} {E : Elem α} (hE : Stays q E) {w w' : World} {C : Nat} {a : Option Addr} {l : List α} {bs : List Nat} (h : Sl q E w a l bs) (hg : w.grownBy w' (some C)) (hC : C ∉ bs) : Sl q E w' a l bs :=
  h.alike hE (grown_alike hg (h.lt hE) hC)
theorem Blk.grown {w w' : World} {C B : Nat} {vs : List Value} (h : Blk w B vs) (hg : w.grownBy w' (some C)) (hne : B ≠ C) : Blk w' B vs := by
  have e : w'.heap[B]? = w.heap[B]? := hg.block B h.lt (fun e => hne (by injection e))
  exact ⟨Nat.lt_of_lt_of_le h.lt hg.size, fun j hj => (World.cell?_of_block (a := ⟨B, j, none⟩) e).trans (h.cell j hj), fun j => (World.frozen?_of_block (a := ⟨B, j, none⟩) e).trans (h.free j)⟩
theorem MapAt.grown {w w' : World} {C b n : Nat} {g : Int → Option Int} (h : MapAt w b n g) (hg : w.grownBy w' (some C)) (hne : b ≠ C) : MapAt w' b n g := by
  obtain ⟨D, h1, h2⟩ := h
  exact ⟨D, h1.kept hg (fun e => hne (by injection e)), h2⟩

end Go.Proofs.YtdlgehnoiaoneaaGreatDoor

namespace Go.Proofs.YtdlgehnoiaoneaaGreatDoor
open Go.RowKit Go.Maps

/-- The program's chart as a value. -/
abbrev chV (an : Option Addr) (nn cn : Nat) (aw : Option Addr) (nw cw : Nat) (aa : Option Addr) (na ca : Nat) (bN bW : Nat) : Value :=
  .agg #[.slice an nn cn, .slice aw nw cw, .slice aa na ca, .map (some bN), .map (some bW)]

end Go.Proofs.YtdlgehnoiaoneaaGreatDoor

namespace Go.Proofs.YtdlgehnoiaoneaaGreatDoor
open Go.RowKit Go.Maps

end Go.Proofs.YtdlgehnoiaoneaaGreatDoor
