/-
  A row that grows in a field of a struct of the call's own.
-/
import Derived.Test.YtmmapkpieimibaaGreatFlat
import Derived.Test.YtmmapkpieimibaaGreatChartF
namespace Go.Proofs.YtmmapkpieimibaaGreat
open Go.RowKit Go.Maps

theorem grown_row {U a b : World} {K : Nat} {row : Option Nat} (h : U.grownBy a (some K)) (k : a.grownBy b row) (hr : ∀ g, row = some g → U.heap.size ≤ g) : U.grownBy b (some K) :=
  ⟨k.os.trans h.os, k.tape.trans h.tape, k.output.trans h.output, Nat.le_trans h.size k.size, fun i hi hne => by
    rw [k.block i (Nat.lt_of_lt_of_le hi h.size) (fun e => by have := hr i e.symm; omega)]
    exact h.block i hi hne⟩
/-- The box K has these fields ahead, the growing row, and these behind; from lo on the row's memory; all but K as it was in U. -/
structure Kp {α : Type} (q : Nat) (V : VElem α) (T : TypeId) (K : Nat) (U : World) (pre post : List Value) (w : World) (v : Value) (l : List α) (R : Nat → List Value) (f : Nat → List Nat) : Prop where
  gr : Gr q V T U.heap.size w v l R f
  box : Blk w K (pre ++ v :: post)
  far : U.grownBy w (some K)
theorem Kp.start {α : Type} (q : Nat) (V : VElem α) (T : TypeId) {K : Nat} {U : World} {pre post : List Value} (h : Blk U K (pre ++ .slice none 0 0 :: post)) : Kp q V T K U pre post U (.slice none 0 0) [] (fun _ => List.replicate q (.bool false)) (fun _ => []) :=
  ⟨Gr.nil _ _ _ _ _, h, World.grownBy.refl _ _⟩
theorem Kp.bel {α : Type} {q : Nat} {E : Elem α} {V : VElem α} (hS : VStays q E V) {T : TypeId} {K : Nat} {U : World} {pre post : List Value} {w w' : World} {v : Value} {l : List α} {R : Nat → List Value} {f : Nat → List Nat} (h : Kp q V T K U pre post w v l R f) (hb : Bel w w') : Kp q V T K U pre post w' v l R f :=
  ⟨h.gr.bel hS hb, h.box.bel hb, grown_step h.far hb⟩
/-- Behind append, ahead of the store. -/
theorem Kp.mid {α : Type} {q : Nat} {V : VElem α} {T : TypeId} {K : Nat} {U : World} {pre post : List Value} {w w2 w3 : World} {v : Value} {l : List α} {R : Nat → List Value} {f : Nat → List Nat} (h : Kp q V T K U pre post w v l R f) (hK : K < U.heap.size) (hb : Bel w w2) (hg : w2.grownBy w3 v.ownBlock) : Blk w3 K (pre ++ v :: post) := by
  have hb2 := h.box.bel hb
  have e : w3.heap[K]? = w2.heap[K]? := hg.block K hb2.lt (fun e => by have := (h.gr.own.lt K e.symm).1; omega)
  exact ⟨Nat.lt_of_lt_of_le hb2.lt hg.size, fun j hj => (World.cell?_of_block (a := ⟨K, j, none⟩) e).trans (hb2.cell j hj), fun j => (World.frozen?_of_block (a := ⟨K, j, none⟩) e).trans (hb2.free j)⟩
theorem set_mid (pre post : List Value) (v v' : Value) : (pre ++ v :: post).set pre.length v' = pre ++ v' :: post := by
  induction pre with
  | nil => rfl
  | cons a l ih => simp
theorem Kp.step {α : Type} {q : Nat} {E : Elem α} {V : VElem α} (hS : VStays q E V) {T : TypeId} {K : Nat} {U : World} {pre post : List Value} {w0 w1 w2 w3 : World} {v v' : Value} {l : List α} {R : Nat → List Value} {f : Nat → List Nat} (h : Kp q V T K U pre post w0 v l R f) (hK : K < U.heap.size)
    (h01 : Bel w0 w1) (h12 : Bel w1 w2) {vs : List Value} {d : α} {bs : List Nat} (hv : V w1 vs d bs) (hF : Fresh w0 w1 bs)
    (ho : w3.ownsRow U.heap.size T q v' (l.length + 1) (recs R l.length ++ vs)) (hg : w2.grownBy w3 v.ownBlock) (hat : v'.ownBlock = v.ownBlock ∨ v'.ownBlock = some w2.heap.size) :
    ∃ R' f', Kp q V T K U pre post (w3.setCell ⟨K, pre.length, none⟩ v') v' (l ++ [d]) R' f' := by
  have g := Gr.add hS h.gr h01 h12 hv hF h.far.size ho hg hat
  have hm := h.mid hK (bel_step h01 h12) hg
  refine ⟨_, _, g.far hS (grown_set (World.grownBy.refl _ _) _ _) hK, ?_, ?_⟩
  · have := hm.set pre.length v' (by simp)
    rw [set_mid] at this
    exact this
  · exact grown_set (grown_row (grown_step (grown_step h.far h01) h12) hg fun g e => (h.gr.own.lt g e).1) _ _
theorem MapV.alike {w w' : World} {v : Value} {m : MapD} {bs : List Nat} (h : MapV w v m bs) (hA : Alike w w' bs) : MapV w' v m bs := by
  obtain ⟨a0, c0, a1, c1, a2, c2, b0, b1, b2, h0, h1, h2, h3, h4⟩ := h.out
  subst h1
  exact ⟨a0, c0, a1, c1, a2, c2, b0, b1, b2, h0, rfl, h2.alike nodeE (hA.sub fun _ hx => by simp [hx]), h3.alike wayE (hA.sub fun _ hx => by simp [hx]), h4.alike areaE (hA.sub fun _ hx => by simp [hx])⟩
end Go.Proofs.YtmmapkpieimibaaGreat
