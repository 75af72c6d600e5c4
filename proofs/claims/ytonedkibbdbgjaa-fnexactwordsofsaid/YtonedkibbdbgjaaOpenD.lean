/-
  How data with depth that is handed in is read: a slice's value, and what its cells hold, down to the last text.
-/
import Derived.Test.YtonedkibbdbgjaaMem
import Derived.ProofKit
import Derived.Carry
import Derived.Lib.SmallJoins
import Derived.Deep.Slices
import Derived.Deep.SlicePairs
import Derived.Deep.Strs
namespace Go.Proofs.Ytonedkibbdbgjaa
open Go.ChangeShapes Go.WideShapes Go.ChangeAt Go.RowKit Go.Deep Go.Joins

theorem in64_of_wf {x : Int} (h : (Lit.int .i64 x).wf = true) : In64 x := by
  simp [Lit.wf, IntKind.min, IntKind.max, IntKind.signed, IntKind.bits] at h
  exact ⟨by omega, by omega⟩

section
variable {H : Type} {enc : TypeId × Value → H} {P : Program} {W : World} {base : Nat} {spare : Nat → Bool} {held : Bool}

/-- A slice of whatever elements: each as the given reading says. -/
theorem open_sl {α : Type} [Inhabited α] {q : Nat} {E : Elem α} {t e : TypeId} (hq : 0 < q) (ht : P.underlying t = some (.slice e)) (ce : P.cellsOf e = q)
    (hel : ∀ (b o n : Nat) (cs : List Value) (x : DataW H × List MemPlace), cs.length = q → (∀ j (h : j < cs.length), W.cell? ⟨b, o + j, none⟩ = some cs[j]) → DataW.trod enc P W base spare held n e cs = some x → ∃ d bs, E W b o d bs)
    {fuel : Nat} {cs : List Value} {x : DataW H × List MemPlace} (h : DataW.trod enc P W base spare held fuel t cs = some x) :
    ∃ a c l bs, cs = [.slice a l.length c] ∧ Sl q E W a l bs ∧ l.length ≤ maxLen := by
  rcases open_slice ht h with ⟨hcs, _⟩ | ⟨a, len, cap, m, n, D, Pl, hcs, _, hl, hm, hmm, _, hx⟩
  · exact ⟨none, 0, [], [], hcs, .inl ⟨rfl, rfl⟩, by simp⟩
  · have hlm : len ≤ m := by rw [hmm]; split <;> omega
    by_cases h0 : len = 0
    · subst h0
      exact ⟨some a, cap, [], [], hcs, .inl ⟨rfl, rfl⟩, by simp⟩
    · obtain ⟨b, off, spot⟩ := a
      have key : ∀ i, i < len → ∃ cs' : List Value, cs'.length = q ∧ (∀ j (h : j < cs'.length), W.cell? ((Addr.add ⟨b, off, spot⟩ (i * q)).add j) = some cs'[j]) ∧ DataW.trod enc P W base spare held n e cs' = some (D i, Pl i) := fun i hi => by
        obtain ⟨cs', h1, h2⟩ := hx i (by omega)
        rw [ce] at h1
        obtain ⟨_, hlen, hcell⟩ := World.cells?_some h1
        exact ⟨cs', hlen, fun j hj => by rw [hcell j (by omega)]; simp, h2⟩
      have hspot : spot = none := by
        obtain ⟨cs', h1, h2, _⟩ := key 0 (by omega)
        have := h2 0 (by omega)
        simpa [Addr.add] using World.cell?_spot this
      subst hspot
      have key2 : ∀ i, i < len → ∃ p : α × List Nat, E W b (off + i * q) p.1 p.2 := fun i hi => by
        obtain ⟨cs', h1, h2, h3⟩ := key i hi
        obtain ⟨d, bs, hd⟩ := hel b (off + i * q) n cs' _ h1 (fun j hj => by have := h2 j hj; rw [add_add, add_plain] at this; rw [Nat.add_assoc]; exact this) h3
        exact ⟨(d, bs), hd⟩
      obtain ⟨f, hf⟩ := choose_lt key2
      have hlen : ((List.range len).map fun i => (f i).1).length = len := by simp
      refine ⟨_, cap, (List.range len).map fun i => (f i).1, _, by rw [hlen]; exact hcs, .inr ⟨b, off, fun i => (f i).2, rfl, ?_, rfl, fun i hi => ?_⟩, by rw [hlen]; omega⟩
      · obtain ⟨cs', h1, h2, _⟩ := key 0 (by omega)
        have := World.block_lt_of_cell? W _ (h2 0 (by omega))
        simpa [Addr.add] using this
      · rw [hlen] at hi
        simpa using hf i hi
end

instance : Inhabited TagD := ⟨⟨⟨#[]⟩, ⟨#[]⟩⟩⟩
instance : Inhabited PartD := ⟨⟨0, false⟩⟩
instance : Inhabited NodeD := ⟨⟨0, 0, 0, []⟩⟩
instance : Inhabited WayD := ⟨⟨0, [], []⟩⟩
instance : Inhabited AreaD := ⟨⟨0, [], []⟩⟩

section
variable {H : Type} {enc : TypeId × Value → H} {W : World} {base : Nat} {spare : Nat → Bool} {held : Bool}
theorem cellsStr : Try.prog.cellsOf 9 = 1 := by kernel_rfl
theorem cellsI64 : Try.prog.cellsOf 2 = 1 := by kernel_rfl
end

set_option maxRecDepth 100000 in
theorem open_str {H : Type} {enc : TypeId × Value → H} {W : World} {base : Nat} {v : Value} {d : DataW H} {p : List MemPlace}
    (hv : Value.okWide Try.prog W .any base 9 v) (h : DataW.Trod enc Try.prog W 0 (fun _ => true) true 9 v d p) :
    ∃ s : ByteArray, v = .string s ∧ s.size ≤ maxLen := by
  obtain ⟨s', rfl⟩ := okWide_string Try.underlying9 hv
  obtain ⟨fuel, hf⟩ := h
  obtain ⟨s, e0, _, z0⟩ := DataW.trod_string Try.underlying9 hf
  simp [Value.cells] at e0
  subst e0
  exact ⟨_, rfl, z0⟩
end Go.Proofs.Ytonedkibbdbgjaa
