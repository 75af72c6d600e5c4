/-
  What the model draws for Cross: any four points.
-/
import Derived.Test.YtpbpnkklnbmkeaaDrawT
import Derived.Laws.OwnMore
import Derived.Deep.AppendLies
namespace Go.Proofs.Ytpbpnkklnbmkeaa
open Go.RowKit

theorem infoX : (Try.prog.info? 31).map (fun i => (i.zero, i.size, i.bytes)) = some (some (.agg #[.int .i64 0, .int .i64 0]), 2, 16) := by kernel_rfl
theorem infoX_parts : ∃ i : TypeInfo, Try.prog.info? 31 = some i ∧ i.zero = some (.agg #[.int .i64 0, .int .i64 0]) ∧ i.size = 2 ∧ i.bytes = 16 := by
  have h := infoX
  cases e : Try.prog.info? 31 with
  | none => rw [e] at h; simp at h
  | some i => rw [e] at h; simp at h; exact ⟨i, rfl, h.1, h.2.1, h.2.2⟩
theorem own_drawn {w w' w0 : World} {B base e sz : Nat} {v : Value} {k : Nat} {xs : List Value} {a : Option Addr} {n c : Nat} (h : w.ownsRow base e sz v k xs) (d : Drawn w0 w B a n c w') (hB : B < base) : w'.ownsRow base e sz v k xs := by
  refine ⟨h.1, h.2.imp id ?_⟩
  rintro ⟨g, cap, cur, hv, hb, hg, r⟩
  refine ⟨g, cap, cur, hv, hb, (d.o.obj g ?_ (by omega)).trans hg, r⟩
  exact (Array.getElem?_eq_some_iff.1 hg).1
theorem Drawn.grown {w0 w v u : World} {B : Nat} {a : Option Addr} {n c : Nat} {row : Option Nat} (h : Drawn w0 w B a n c v) (g : v.grownBy u row) (h0 : w0.heap.size ≤ w.heap.size) (hB : B < w.heap.size) (hr : ∀ k, row = some k → w.heap.size ≤ k) : Drawn w0 w B a n c u := by
  have ne : ∀ d, d < w.heap.size → some d ≠ row := fun d hd e => by have := hr d e.symm; omega
  have eb : ∀ d, d < w.heap.size → u.heap[d]? = v.heap[d]? := fun d hd => g.block d (Nat.lt_of_lt_of_le hd h.o.size) (ne d hd)
  have ec : ∀ d i, d < w.heap.size → u.cell? ⟨d, i, none⟩ = v.cell? ⟨d, i, none⟩ := fun d i hd => World.cell?_of_block (a := ⟨d, i, none⟩) (eb d hd)
  have ef : ∀ d i, d < w.heap.size → u.frozen? ⟨d, i, none⟩ = v.frozen? ⟨d, i, none⟩ := fun d i hd => World.frozen?_of_block (a := ⟨d, i, none⟩) (eb d hd)
  exact ⟨Below.grown h.b g h.b.out.size (fun k e => Nat.le_trans h0 (hr k e)), ⟨Nat.le_trans h.o.size g.size, fun d i hd hn => (ec d i hd).trans (h.o.cell d i hd hn), fun d i hd hn => (ef d i hd).trans (h.o.froz d i hd hn), fun d hd hn => (eb d hd).trans (h.o.obj d hd hn)⟩,
    ⟨Nat.lt_of_lt_of_le h.k.lt g.size, (ec B 0 hB).trans h.k.c0, h.k.c1.elim fun i k => ⟨i, k.1, (ec B 1 hB).trans k.2⟩, h.k.c2.elim fun i k => ⟨i, (ec B 2 hB).trans k⟩, fun j => (ef B j hB).trans (h.k.fr j)⟩⟩
/-- A row of four points that may be written. -/
structure Rw (w : World) (g : Nat) : Prop where
  c : ∀ j, j < 8 → ∃ z : Int, w.cell? ⟨g, j, none⟩ = some (.int .i64 z)
  fr : ∀ j, w.frozen? ⟨g, j, none⟩ = false
  lt : g < w.heap.size
theorem Rw.of {w : World} {base t g cap : Nat} {xs : List Value} (h : w.ownsRow base t 2 (.slice (some ⟨g, 0, none⟩) 4 cap) 4 xs) (hx : ∀ u ∈ xs, ∃ z : Int, u = .int .i64 z) : Rw w g := by
  refine ⟨fun j hj => ?_, h.frozenAt, (h.lt g rfl).2⟩
  have hl : j < xs.length := by rw [h.1]; omega
  obtain ⟨z, e⟩ := hx xs[j] (List.getElem_mem hl)
  exact ⟨z, by rw [h.cellAt j (by omega), List.getElem?_eq_getElem hl, e]⟩
theorem Rw.drawn {w w' w0 : World} {g B : Nat} {a : Option Addr} {n c : Nat} (h : Rw w g) (d : Drawn w0 w B a n c w') (hn : g ≠ B) : Rw w' g :=
  ⟨fun j hj => (h.c j hj).elim fun z e => ⟨z, (d.o.cell g j h.lt hn).trans e⟩, fun j => (d.o.froz g j h.lt hn).trans (h.fr j), Nat.lt_of_lt_of_le h.lt d.o.size⟩
theorem Rw.set {w : World} {g : Nat} (h : Rw w g) (o : Nat) (z : Int) : Rw (w.setCell ⟨g, o, none⟩ (.int .i64 z)) g := by
  refine ⟨fun j hj => ?_, fun j => by rw [World.frozen?_setCell]; exact h.fr j, by simpa [World.setCell] using h.lt⟩
  obtain ⟨y, e⟩ := h.c j hj
  by_cases k : j = o
  · subst k; exact ⟨z, World.cell?_setCell_same _ _ _ e⟩
  · exact ⟨y, by rw [World.cell?_setCell_other _ _ _ _ (fun e => k (congrArg Addr.off e).symm)]; exact e⟩
theorem own_form {w : World} {base t k : Nat} {v : Value} {xs : List Value} (h : w.ownsRow base t 2 v k xs) : ∃ va vc, v = .slice va k vc := by
  rcases h.2 with ⟨rfl, rfl⟩ | ⟨g, cap, _, rfl, _⟩
  · exact ⟨_, _, rfl⟩
  · exact ⟨_, _, rfl⟩
theorem own_form4 {w : World} {base t : Nat} {v : Value} {xs : List Value} (h : w.ownsRow base t 2 v 4 xs) : ∃ g cap, v = .slice (some ⟨g, 0, none⟩) 4 cap ∧ base ≤ g := by
  rcases h.2 with ⟨_, h⟩ | ⟨g, cap, _, rfl, hb, _⟩
  · cases h
  · exact ⟨_, _, rfl, hb⟩

end Go.Proofs.Ytpbpnkklnbmkeaa
