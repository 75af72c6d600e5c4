/-
  Rows of the call's own beside each other: what stays when one of them grows.
-/
import Derived.Test.YtpbpnkklnbmkeaaRowH
import Derived.Laws.OwnMore
namespace Go.Proofs.Ytpbpnkklnbmkeaa
open Go.RowKit Go.Maps

theorem Gr.kept {α : Type} {q : Nat} {E : Elem α} {P : α → Prop} {cs : α → List Value} (hF : Flat q E P cs) {T : TypeId} {lo : Nat} {w w' : World} {v : Value} {l : List α} {R : Nat → List Value} {row : Option Nat} (h : Gr q (flatV P cs) T lo w v l R (fun _ => []))
    (hg : w.grownBy w' row) (hne : v.ownBlock = none ∨ v.ownBlock ≠ row) : Gr q (flatV P cs) T lo w' v l R (fun _ => []) :=
  Gr.alike hF.stays h (h.own.kept hg hne) (fun _ _ _ hx => nomatch hx)
theorem Blk.kept {w w' : World} {B : Nat} {vs : List Value} {row : Option Nat} (h : Blk w B vs) (hg : w.grownBy w' row) (hne : some B ≠ row) : Blk w' B vs :=
  ⟨Nat.lt_of_lt_of_le h.lt hg.size, fun j hj => by rw [World.cell?_of_block (hg.block B h.lt hne)]; exact h.cell j hj, fun j => by rw [World.frozen?_of_block (hg.block B h.lt hne)]; exact h.free j⟩
theorem bel_none {w w' : World} (h : Bel w w') : w.grownBy w' none := ⟨h.out.os, h.out.tape, h.out.output, h.out.size, fun k hk _ => h.out.block k hk⟩
theorem grown_any {w w' : World} (h : Bel w w') (row : Option Nat) : w.grownBy w' row := ⟨h.out.os, h.out.tape, h.out.output, h.out.size, fun k hk _ => h.out.block k hk⟩
theorem setCell_grown (w : World) (g o : Nat) (u : Value) : w.grownBy (w.setCell ⟨g, o, none⟩ u) (some g) :=
  ⟨rfl, rfl, rfl, by simp, fun k _ hk => heap_setCell_other w ⟨g, o, none⟩ k u (fun e => hk (by simp [e]))⟩
theorem ne_swap {a b : Option Nat} (h : a = none ∨ a ≠ b) : b = none ∨ b ≠ a := by
  rcases h with h | h
  · subst h; exact Classical.em _
  · exact .inr h.symm
def intsN (l : List Nat) : List Value := l.map fun (i : Nat) => Value.int .i64 (i : Int)
theorem own_len {w : World} {base : Nat} {e : TypeId} {v : Value} {n : Nat} {xs : List Value} (h : w.ownsRow base e 1 v n xs) : xs.length = n := by rw [h.1, Nat.mul_one]
/-- A row of the call's own that is not empty. -/
theorem own_some {w : World} {base : Nat} {e : TypeId} {q : Nat} {v : Value} {n : Nat} {xs : List Value} (h : w.ownsRow base e q v n xs) (hn : 0 < n) : ∃ g cap, v = .slice (some ⟨g, 0, none⟩) n cap := by
  rcases h.2 with ⟨_, h0⟩ | ⟨g, cap, cur, h1, _⟩
  · omega
  · exact ⟨g, cap, h1⟩
theorem own_int {w : World} {base g n cap : Nat} {l : List Nat} (h : w.ownsRow base 3 1 (.slice (some ⟨g, 0, none⟩) n cap) n (intsN l)) {i : Nat} (hi : i < l.length) : w.cell? ⟨g, i, none⟩ = some (.int .i64 (l[i] : Nat)) := by
  have hl : l.length = n := by have := own_len h; simpa [intsN] using this
  rw [h.cellAt i (by omega)]
  unfold intsN
  rw [List.getElem?_map, List.getElem?_eq_getElem hi]; rfl
theorem infoBl : (Try.prog.info? 4).map (fun i => (i.zero, i.size, i.bytes)) = some (some (.bool false), 1, 1) := by kernel_rfl
theorem infoIn : (Try.prog.info? 3).map (fun i => (i.zero, i.size, i.bytes)) = some (some (.int .i64 0), 1, 8) := by kernel_rfl
end Go.Proofs.Ytpbpnkklnbmkeaa
