/-
  Contract of the making of a chart, first part.
-/
import Derived.Test.YtiagdabikbjbiaaOwnR
import Derived.Deep.RegionHeld3
namespace Go.Proofs.Ytiagdabikbjbiaa
open Go.RowKit Go.Maps

theorem Blk.grownR {w w' : World} {B : Nat} {row : Option Nat} {vs : List Value} (h : Blk w B vs) (hg : w.grownBy w' row) (hne : some B ≠ row) : Blk w' B vs := by
  have e : w'.heap[B]? = w.heap[B]? := hg.block B h.lt hne
  exact ⟨Nat.lt_of_lt_of_le h.lt hg.size, fun j hj => (World.cell?_of_block (a := ⟨B, j, none⟩) e).trans (h.cell j hj), fun j => (World.frozen?_of_block (a := ⟨B, j, none⟩) e).trans (h.free j)⟩

theorem own_shape {w : World} {base : Nat} {e : TypeId} {q n : Nat} {v : Value} {xs : List Value} (h : w.ownsRow base e q v n xs) : ∃ a c, v = .slice a n c := by
  rcases h.2 with ⟨rfl, rfl⟩ | ⟨g, cap, cur, rfl, _⟩
  · exact ⟨_, _, rfl⟩
  · exact ⟨_, _, rfl⟩

def rowN (A : Nat → Option Addr) (C : Nat → Nat) (l : List NodeD) (i : Nat) : List Value :=
  [.int .i64 (l.getD i ⟨0, 0, 0, []⟩).id, .slice (A i) (l.getD i ⟨0, 0, 0, []⟩).tags.length (C i), .int .i64 (l.getD i ⟨0, 0, 0, []⟩).x, .int .i64 (l.getD i ⟨0, 0, 0, []⟩).y]
theorem rowN_at {A : Nat → Option Addr} {C : Nat → Nat} {l : List NodeD} {i : Nat} (h : i < l.length) : rowN A C l i = [.int .i64 l[i].id, .slice (A i) l[i].tags.length (C i), .int .i64 l[i].x, .int .i64 l[i].y] := by
  unfold rowN; rw [getD_at _ h]
def rowW (A : Nat → Option Addr) (C : Nat → Nat) (A' : Nat → Option Addr) (C' : Nat → Nat) (l : List WayD) (i : Nat) : List Value :=
  [.int .i64 (l.getD i ⟨0, [], []⟩).id, .slice (A' i) (l.getD i ⟨0, [], []⟩).tags.length (C' i), .slice (A i) (l.getD i ⟨0, [], []⟩).nodes.length (C i)]
theorem rowW_at {A : Nat → Option Addr} {C : Nat → Nat} {A' : Nat → Option Addr} {C' : Nat → Nat} {l : List WayD} {i : Nat} (h : i < l.length) : rowW A C A' C' l i = [.int .i64 l[i].id, .slice (A' i) l[i].tags.length (C' i), .slice (A i) l[i].nodes.length (C i)] := by
  unfold rowW; rw [getD_at _ h]
def rowA (A : Nat → Option Addr) (C : Nat → Nat) (A' : Nat → Option Addr) (C' : Nat → Nat) (l : List AreaD) (i : Nat) : List Value :=
  [.int .i64 (l.getD i ⟨0, [], []⟩).id, .slice (A' i) (l.getD i ⟨0, [], []⟩).tags.length (C' i), .slice (A i) (l.getD i ⟨0, [], []⟩).parts.length (C i)]
theorem rowA_at {A : Nat → Option Addr} {C : Nat → Nat} {A' : Nat → Option Addr} {C' : Nat → Nat} {l : List AreaD} {i : Nat} (h : i < l.length) : rowA A C A' C' l i = [.int .i64 l[i].id, .slice (A' i) l[i].tags.length (C' i), .slice (A i) l[i].parts.length (C i)] := by
  unfold rowA; rw [getD_at _ h]
/-- All but the chart's own block is as it was, and that block holds the three lists. -/
structure Sx (C : Nat) (s0 s1 s2 : Value) (W w' : World) : Prop where
  g : W.grownBy w' (some C)
  b : ∃ u3 u4, Blk w' C [s0, s1, s2, u3, u4]
theorem Sx.drew {C : Nat} {s0 s1 s2 : Value} {W w' : World} (h : Sx C s0 s1 s2 W w') : Sx C s0 s1 s2 W w'.drew := ⟨⟨h.g.os, h.g.tape, h.g.output, h.g.size, h.g.block⟩, by obtain ⟨u3, u4, h⟩ := h.b; exact ⟨u3, u4, h.lt, h.cell, h.free⟩⟩
theorem Sx.bel {C : Nat} {s0 s1 s2 : Value} {W w' w'' : World} (h : Sx C s0 s1 s2 W w') (hb : Bel w' w'') : Sx C s0 s1 s2 W w'' := ⟨grown_step h.g hb, by obtain ⟨u3, u4, h⟩ := h.b; exact ⟨u3, u4, h.bel hb⟩⟩
theorem Sx.set3 {C : Nat} {s0 s1 s2 : Value} {W w' : World} (h : Sx C s0 s1 s2 W w') (u : Value) : Sx C s0 s1 s2 W (w'.setCell ⟨C, 3, none⟩ u) := ⟨grown_set h.g 3 u, by obtain ⟨u3, u4, h⟩ := h.b; exact ⟨u, u4, h.set 3 u (by simp)⟩⟩
theorem Sx.set4 {C : Nat} {s0 s1 s2 : Value} {W w' : World} (h : Sx C s0 s1 s2 W w') (u : Value) : Sx C s0 s1 s2 W (w'.setCell ⟨C, 4, none⟩ u) := ⟨grown_set h.g 4 u, by obtain ⟨u3, u4, h⟩ := h.b; exact ⟨u3, u, h.set 4 u (by simp)⟩⟩

abbrev nilS : Value := .slice none 0 0

/-- No chart. -/
abbrev chZ : Value := .agg #[nilS, nilS, nilS, .map none, .map none]

end Go.Proofs.Ytiagdabikbjbiaa
