/-
  Pieces of a row that lie behind each other in one block: how they are read, marked and found to be marked.
-/
import Derived.Test.YtkmccjjghpnejaaClpI
import Derived.Test.YtkmccjjghpnejaaClpX
import Derived.Test.YtkmccjjghpnejaaPtsE
namespace Go.Proofs.Ytkmccjjghpnejaa
open Go.RowKit Go.Maps

/-- A row in a row. -/
def RowE : Elem (List PtD) := fun w b o d bs => ∃ a c, d.length ≤ maxLen ∧ w.cell? ⟨b, o, none⟩ = some (.slice a d.length c) ∧ PtL w a d bs
theorem rowE : Stays 1 RowE := ⟨fun ⟨a, c, hl, h0, h2⟩ hc hA => ⟨a, c, hl, same_cell hc 0 (by decide) h0, h2.alike ptE hA⟩, fun ⟨_, _, _, _, h⟩ => Sl.lt ptE h⟩
abbrev RowsL := Sl 1 RowE
/-- The program's pieces. -/
def PieL (w : World) (a : Option Addr) (L : List (List PtD)) (bs : List Nat) : Prop :=
 (L = [] ∧ bs = []) ∨ ∃ R g, a = some ⟨R, 0, none⟩ ∧ bs = [R, g] ∧ R ≠ g ∧ R < w.heap.size ∧ g < w.heap.size ∧ GoodP L ∧ L.flatten.length ≤ 1000000 ∧ (∀ i, i < L.length → w.cell? ⟨R, i, none⟩ = some (ctV g (stN L) i)) ∧
  ∀ j (h : j < L.flatten.length), w.cell? ⟨g, j * 2, none⟩ = some (.int .i64 L.flatten[j].x) ∧ w.cell? ⟨g, j * 2 + 1, none⟩ = some (.int .i64 L.flatten[j].y)
/-- .. marked. -/
def MkL (w : World) (a : Option Addr) (L : List (List PtD)) (bs : List Nat) (k : Nat) : Prop :=
 (L = [] ∧ bs = []) ∨ ∃ R g, a = some ⟨R, 0, none⟩ ∧ bs = [R, g] ∧ R < w.heap.size ∧ g < w.heap.size ∧ L.flatten.length ≤ 1000000 ∧ (∀ i, i < L.length → w.cell? ⟨R, i, none⟩ = some (ctV g (stN L) i)) ∧
  ∀ j, j < L.flatten.length * 2 → w.cell? ⟨g, j, none⟩ = some (.int .i64 ((k + j : Nat) : Int))
theorem PieL.alike {w w' : World} {a : Option Addr} {L : List (List PtD)} {bs : List Nat} (h : PieL w a L bs) (_ : Stays 1 RowE) (hA : Alike w w' bs) : PieL w' a L bs := by
 rcases h with h | ⟨R, g, h1, h2, h3, h4, h5, h6, h7, h8, h9⟩
 ·exact .inl h
 ·subst h2
  have aR := hA R (by simp)
  have ag := hA g (by simp)
  exact .inr ⟨R, g, h1, rfl, h3, aR.1, ag.1, h6, h7, fun i hi => (aR.2.1 i).trans (h8 i hi), fun j hj => ⟨(ag.2.1 _).trans (h9 j hj).1, (ag.2.1 _).trans (h9 j hj).2⟩⟩
theorem PieL.lt {w : World} {a : Option Addr} {L : List (List PtD)} {bs : List Nat} (h : PieL w a L bs) (_ : Stays 1 RowE) : ∀ x ∈ bs, x < w.heap.size := by
 rcases h with ⟨_, rfl⟩ | ⟨R, g, _, rfl, _, h4, h5, _⟩
 ·exact fun _ h => nomatch h
 ·intro x hx
  simp only [List.mem_cons, List.not_mem_nil, or_false] at hx
  rcases hx with rfl | rfl
  ·exact h4
  ·exact h5
theorem PieL.bel {w w' : World} {a : Option Addr} {L : List (List PtD)} {bs : List Nat} (h : PieL w a L bs) (s : Stays 1 RowE) (hb : Bel w w') : PieL w' a L bs := h.alike s (Alike.bel hb (h.lt s))
theorem MkL.bel {w w' : World} {a : Option Addr} {L : List (List PtD)} {bs : List Nat} {k : Nat} (h : MkL w a L bs k) (_ : Stays 1 RowE) (hb : Bel w w') : MkL w' a L bs k := by
 rcases h with h | ⟨R, g, h1, h2, h4, h5, h7, h8, h9⟩
 ·exact .inl h
 ·exact .inr ⟨R, g, h1, h2, bel_lt hb h4, bel_lt hb h5, h7, fun i hi => bel_cellM hb h4 (h8 i hi), fun j hj => bel_cellM hb h5 (h9 j hj)⟩
/-- They are read as rows. -/
theorem PieL.rows {w : World} {a : Option Addr} {L : List (List PtD)} {bs : List Nat} (h : PieL w a L bs) : ∃ bs', RowsL w a L bs' := by
 rcases h with ⟨rfl, _⟩ | ⟨R, g, h1, h2, h3, h4, h5, h6, h7, h8, h9⟩
 ·exact ⟨[], .inl ⟨rfl, rfl⟩⟩
 ·refine ⟨_, .inr ⟨R, 0, fun i => g :: (List.range ((L[i]?.getD []).length)).flatMap fun _ => [], h1, h4, rfl, fun i hi => ?_⟩⟩
  have hlen : L[i].length ≤ L.flatten.length := by
   have h1 := stN_succ hi
   have h2 : stN L (i + 1) ≤ L.flatten.length := by
    unfold stN
    have := congrArg (fun l => l.flatten.length) (List.take_append_drop (i + 1) L)
    simp only [List.flatten_append, List.length_append] at this
    omega
   omega
  refine ⟨some ⟨g, stN L i * 2, none⟩, L[i].length, by unfold maxLen; omega, ?_, ?_⟩
  ·rw [Nat.mul_one, Nat.zero_add, h8 i hi]
   unfold ctV
   have e : stN L (i + 1) - stN L i = L[i].length := by rw [stN_succ hi]; omega
   rw [e]
  ·have e : (L[i]?.getD []).length = L[i].length := by simp [hi]
   show PtL w (some ⟨g, stN L i * 2, none⟩) L[i] (g :: (List.range ((L[i]?.getD []).length)).flatMap fun _ => [])
   rw [e]
   refine .inr ⟨g, stN L i * 2, fun _ => [], rfl, h5, rfl, fun j hj => ?_⟩
   obtain ⟨hf, hv⟩ := flat_at hi hj
   obtain ⟨c0, c1⟩ := h9 _ hf
   rw [hv] at c0 c1
   have h64 := h6.in64 L[i] (List.getElem_mem hi) L[i][j] (List.getElem_mem hj)
   have e2 : (stN L i + j) * 2 = stN L i * 2 + j * 2 := by omega
   rw [e2] at c0 c1
   exact ⟨rfl, h64.1, h64.2, c0, c1⟩

/-- Cells lo .. hi - 1 of block g are numbered from k on, all else is as it was. -/
structure Mk (w wr : World) (g lo hi k : Nat) : Prop where
 cell : ∀ j, lo + j < hi → wr.cell? ⟨g, lo + j, none⟩ = some (.int .i64 ((k + j : Nat) : Int))
 oth : ∀ b o, (b ≠ g ∨ o < lo ∨ hi ≤ o) → wr.cell? ⟨b, o, none⟩ = w.cell? ⟨b, o, none⟩
 fro : ∀ b o, wr.frozen? ⟨b, o, none⟩ = w.frozen? ⟨b, o, none⟩
 onl : Onl [g] w wr
theorem Mk.refl (w : World) (g lo k : Nat) : Mk w w g lo lo k := ⟨fun j h => absurd h (by omega), fun _ _ _ => rfl, fun _ _ => rfl, Onl.refl _ _⟩
theorem Mk.add {w wr : World} {g lo hi k : Nat} (h : Mk w wr g lo hi k) (hl : lo ≤ hi) {u v : Value} (h0 : wr.cell? ⟨g, hi, none⟩ = some u) (h1 : wr.cell? ⟨g, hi + 1, none⟩ = some v) {x : Nat} (hx : x = k + (hi - lo)) :
  Mk w ((wr.setCell ⟨g, hi, none⟩ (.int .i64 (x : Int))).setCell ⟨g, hi + 1, none⟩ (.int .i64 ((x : Int) + 1))) g lo (hi + 2) k := by
 have h1' : (wr.setCell ⟨g, hi, none⟩ (.int .i64 (x : Int))).cell? ⟨g, hi + 1, none⟩ = some v := by rw [World.cell?_setCell_other _ _ _ _ (fun e => by simp at e)]; exact h1
 refine ⟨fun j hj => ?_, fun b o hbo => ?_, fun b o => ?_, (h.onl.set (by simp) _ _).set (by simp) _ _⟩
 ·by_cases e : lo + j = hi + 1
  ·rw [e, World.cell?_setCell_same _ _ _ (by rw [h1'])]
   congr 2 <;> omega
  ·rw [World.cell?_setCell_other _ _ _ _ (fun e2 => e (by simpa using e2.symm))]
   by_cases e3 : lo + j = hi
   ·rw [e3, World.cell?_setCell_same _ _ _ (by rw [h0])]
    congr 2 <;> omega
   ·rw [World.cell?_setCell_other _ _ _ _ (fun e2 => e3 (by simpa using e2.symm))]
    exact h.cell j (by omega)
 ·rw [World.cell?_setCell_other _ _ _ _ (fun e2 => by simp at e2; omega), World.cell?_setCell_other _ _ _ _ (fun e2 => by simp at e2; omega)]
  exact h.oth b o (by omega)
 ·rw [World.frozen?_setCell, World.frozen?_setCell]; exact h.fro b o
theorem Mk.join {w wa wb : World} {g lo mid hi k k2 : Nat} (h : Mk w wa g lo mid k) (h2 : Mk wa wb g mid hi k2) (hk : k2 = k + (mid - lo)) (h1 : lo ≤ mid) (h3 : mid ≤ hi) : Mk w wb g lo hi k := by
 refine ⟨fun j hj => ?_, fun b o hbo => ?_, fun b o => (h2.fro b o).trans (h.fro b o), h.onl.trans h2.onl⟩
 ·by_cases e : lo + j < mid
  ·rw [h2.oth g (lo + j) (.inr (.inl e))]; exact h.cell j e
  ·have := h2.cell (lo + j - mid) (by omega)
   have e2 : mid + (lo + j - mid) = lo + j := by omega
   rw [e2] at this
   rw [this]
   congr 2
   omega
 ·rw [h2.oth b o (by omega), h.oth b o (by omega)]

end Go.Proofs.Ytkmccjjghpnejaa
