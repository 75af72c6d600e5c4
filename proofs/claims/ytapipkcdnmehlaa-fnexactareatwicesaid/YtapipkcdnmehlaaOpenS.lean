/-
  How a row of points that is handed in is read: the slice's value, and what its cells hold.
-/
import Derived.Test.YtapipkcdnmehlaaPtsC
namespace Go.Proofs.Ytapipkcdnmehlaa
open Go.ChangeShapes Go.WideShapes Go.ChangeAt Go.RowKit Go.Deep

theorem open_pts {H : Type} {enc : TypeId × Value → H} {W : World} {base : Nat} {v : Value} {d : DataW H} {p : List MemPlace}
    (hv : Value.okWide Try.prog W .any base 22 v) (h : DataW.Trod enc Try.prog W 0 (fun _ => true) true 22 v d p) :
    ∃ (a : Option Addr) (n c : Nat) (X Y : Nat → Int), v = .slice a n c ∧ Pts W a n X Y ∧ n ≤ 9223372036854775807 := by
  obtain ⟨a, n, c, rfl⟩ := okWide_slice Try.underlying22 hv
  obtain ⟨fuel, hf⟩ := h
  rcases open_slice_pairs Try.underlying22 Try.underlying31 cellsLP (by rfl) (by rfl) (by kernel_rfl) (by kernel_rfl) hf with ⟨hcs, _⟩ | ⟨a', len, cap, m, k, V0, V1, D0, D1, P0, P1, hcs, _, hl, hm, hmm, _, hx⟩
  · simp [Value.cells] at hcs
    obtain ⟨rfl, rfl, rfl⟩ := hcs
    exact ⟨none, 0, 0, fun _ => 0, fun _ => 0, rfl, .inl rfl, by omega⟩
  · simp [Value.cells] at hcs
    obtain ⟨rfl, rfl, rfl⟩ := hcs
    have hmm' : n ≤ m := by rw [hmm]; simp; exact hl
    refine ⟨some a', n, c, fun i => intOf (V0 i), fun i => intOf (V1 i), rfl, ?_, by unfold maxLen at hm; omega⟩
    by_cases hn : n = 0
    · exact .inl hn
    · obtain ⟨b, off, spot⟩ := a'
      have h0 := (hx 0 (by omega)).1
      have hspot : spot = none := by simpa [Addr.add] using World.cell?_spot h0
      subst hspot
      refine .inr ⟨b, off, rfl, ?_, fun i hi => ?_⟩
      · have := World.block_lt_of_cell? W _ h0
        simpa [Addr.add] using this
      · obtain ⟨c0, c1, t0, t1⟩ := hx i (by omega)
        obtain ⟨x, e0, _, _⟩ := DataW.trod_int Try.underlying2 t0
        obtain ⟨y, e1, _, _⟩ := DataW.trod_int Try.underlying2 t1
        simp at e0 e1
        rw [e0] at c0
        rw [e1] at c1
        refine ⟨?_, ?_⟩
        · rw [add_plain] at c0; simpa [e0, intOf] using c0
        · rw [add_plain] at c1; simpa [e1, intOf, Nat.add_assoc] using c1
end Go.Proofs.Ytapipkcdnmehlaa
