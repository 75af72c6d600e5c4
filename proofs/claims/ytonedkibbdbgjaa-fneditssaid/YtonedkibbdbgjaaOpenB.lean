/-
  How a slice of bytes that is handed in is read: the slice's value, and what its cells hold.
-/
import Derived.Test.YtonedkibbdbgjaaCurC
import Derived.Test.YtonedkibbdbgjaaOpen
import Derived.Deep.Slices
import Derived.Deep.SlicePairs
namespace Go.Proofs.Ytonedkibbdbgjaa
open Go.ChangeShapes Go.WideShapes Go.ChangeAt Go.RowKit Go.Deep

theorem cellsB : Try.prog.cellsOf 5 = 1 := by kernel_rfl
set_option maxRecDepth 100000 in
theorem open_bytes {H : Type} {enc : TypeId × Value → H} {W : World} {base : Nat} {v : Value} {d : DataW H} {p : List MemPlace}
    (hv : Value.okWide Try.prog W .any base 29 v) (h : DataW.Trod enc Try.prog W 0 (fun _ => true) true 29 v d p) :
    ∃ (a : Option Addr) (n c : Nat), v = .slice a n c ∧ Bts W a n ∧ n ≤ 9223372036854775807 := by
  obtain ⟨a, n, c, rfl⟩ := okWide_slice Try.underlying29 hv
  obtain ⟨fuel, hf⟩ := h
  rcases open_slice1 Try.underlying29 cellsB hf with ⟨hcs, _⟩ | ⟨a', len, cap, m, k, V, D, Pl, hcs, _, hl, hm, hmm, _, hx⟩
  · simp [Value.cells] at hcs
    obtain ⟨rfl, rfl, rfl⟩ := hcs
    exact ⟨none, 0, 0, rfl, .inl rfl, by omega⟩
  · simp [Value.cells] at hcs
    obtain ⟨rfl, rfl, rfl⟩ := hcs
    have hmm' : n ≤ m := by rw [hmm]; simp; exact hl
    refine ⟨some a', n, c, rfl, ?_, by unfold maxLen at hm; omega⟩
    by_cases hn : n = 0
    · exact .inl hn
    · obtain ⟨b, off, spot⟩ := a'
      have h0 := (hx 0 (by omega)).1
      have hspot : spot = none := by simpa [Addr.add] using World.cell?_spot h0
      subst hspot
      refine .inr ⟨b, off, rfl, ?_, fun i hi => ?_⟩
      · have := World.block_lt_of_cell? W _ h0
        simpa [Addr.add] using this
      · obtain ⟨c0, t0⟩ := hx i (by omega)
        obtain ⟨x, e0, _, wx⟩ := DataW.trod_int Try.underlying5 t0
        simp at e0
        rw [e0, add_plain] at c0
        simp [Lit.wf, IntKind.min, IntKind.max, IntKind.signed, IntKind.bits] at wx
        exact ⟨x, ⟨by omega, by omega⟩, c0⟩
end Go.Proofs.Ytonedkibbdbgjaa
