/-
  Points as plain elements of a row that is being built.
-/
import Derived.Test.YthlgednppcapbaaTilL
namespace Go.Proofs.Ythlgednppcapbaa
open Go.RowKit Go.Maps

def PqP (d : PtD) : Prop := In64 d.x ∧ In64 d.y
def pqCs (d : PtD) : List Value := [.int .i64 d.x, .int .i64 d.y]
theorem pqF : Flat 2 PtE PqP pqCs :=
  ⟨fun _ => rfl, fun _ u hu => by simp only [pqCs, List.mem_cons, List.not_mem_nil, or_false] at hu; rcases hu with rfl | rfl <;> rfl,
    fun ⟨_, h1, h2, h3, h4⟩ => ⟨⟨h1, h2⟩, fun j hj => by match j, hj with | 0, _ => exact h3 | 1, _ => exact h4⟩,
    fun hp hc => ⟨rfl, hp.1, hp.2, hc 0 (by simp [pqCs]), hc 1 (by simp [pqCs])⟩⟩
theorem infoPq : (Try.prog.info? 29).map (fun i => (i.zero, i.size, i.bytes)) = some (some (.agg #[.int .i64 0, .int .i64 0]), 2, 16) := by kernel_rfl
/-- A row of points that is being built. -/
abbrev GrP (lo : Nat) (w : World) (v : Value) (l : List PtD) (R : Nat → List Value) : Prop := Gr 2 (flatV PqP pqCs) 29 lo w v l R (fun _ => [])
/-- Where such a row lies. -/
theorem GrP.place {lo : Nat} {w : World} {v : Value} {l : List PtD} {R : Nat → List Value} (h : GrP lo w v l R) : v = .slice none 0 0 ∧ l = [] ∨ ∃ g cap, v = .slice (some ⟨g, 0, none⟩) l.length cap ∧ lo ≤ g ∧ g < w.heap.size ∧ l.length ≤ cap ∧ cap ≤ maxLen ∧ (∀ j, w.frozen? ⟨g, j, none⟩ = false) ∧
    ∀ i (h : i < l.length), w.cell? ⟨g, i * 2, none⟩ = some (.int .i64 l[i].x) ∧ w.cell? ⟨g, i * 2 + 1, none⟩ = some (.int .i64 l[i].y) := by
  have hown := h.own
  rcases h.own.2 with ⟨e, hz⟩ | ⟨g, cap, cur, e, hg, e3, hn, hm, _⟩
  · exact .inl ⟨e, List.length_eq_zero_iff.1 hz⟩
  · subst e
    have hlt : g < w.heap.size := by
      rcases Nat.lt_or_ge g w.heap.size with h | h
      · exact h
      · rw [Array.getElem?_eq_none h] at e3; cases e3
    refine .inr ⟨g, cap, rfl, hg, hlt, hn, hm, fun j => by simp [World.frozen?, e3], fun i hi => ?_⟩
    obtain ⟨_, _, hv⟩ := h.el i hi
    have c0 := hown.cellAt (i * 2 + 0) (by omega)
    have c1 := hown.cellAt (i * 2 + 1) (by omega)
    rw [recs_at h.len (by decide) l.length hi, hv] at c0 c1
    exact ⟨by rw [Nat.add_zero] at c0; rw [c0]; rfl, by rw [c1]; rfl⟩
end Go.Proofs.Ythlgednppcapbaa
