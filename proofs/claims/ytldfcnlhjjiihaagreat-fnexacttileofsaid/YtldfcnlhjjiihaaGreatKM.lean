/-
  Pieces of a row that lie behind each other in one block: how they are read, marked and found to be marked.
  Clip on both sides, in the words that its law wants; pieces marked and found to be marked.
-/
import Derived.Test.YtldfcnlhjjiihaaGreatClpI
import Derived.Test.YtldfcnlhjjiihaaGreatClpX
import Derived.Test.YtldfcnlhjjiihaaGreatKL
import Derived.Test.YtldfcnlhjjiihaaGreatClpW
namespace Go.Proofs.YtldfcnlhjjiihaaGreat
open Go.RowKit Go.Maps

/-- A row in a row. -/
def RowE : Elem (List PtD) := fun w b o d bs => ∃ a c, d.length ≤ maxLen ∧ w.cell? ⟨b, o, none⟩ = some (.slice a d.length c) ∧ PtL w a d bs
theorem rowE : Stays 1 RowE := ⟨fun ⟨a, c, hl, h0, h2⟩ hc hA => ⟨a, c, hl, same_cell hc 0 (by decide) h0, h2.alike ptE hA⟩, fun ⟨_, _, _, _, h⟩ => Sl.lt ptE h⟩
abbrev RowsL := Sl 1 RowE
/-- The program's pieces. -/
def PieL (w : World) (a : Option Addr) (L : List (List PtD)) (bs : List Nat) : Prop :=
 (L = [] ∧ bs = []) ∨ ∃ R g, a = some ⟨R, 0, none⟩ ∧ bs = [R, g] ∧ R ≠ g ∧ R < w.heap.size ∧ g < w.heap.size ∧ GoodP L ∧ L.flatten.length ≤ 1000000 ∧ (∀ i, i < L.length → w.cell? ⟨R, i, none⟩ = some (ctV g (stN L) i)) ∧
  ∀ j (h : j < L.flatten.length), w.cell? ⟨g, j * 2, none⟩ = some (.int .i64 L.flatten[j].x) ∧ w.cell? ⟨g, j * 2 + 1, none⟩ = some (.int .i64 L.flatten[j].y)
/-- .. marked. -/
def MkL (w : World) (a : Option Addr) (L : List (List PtD)) (bs : List Nat) (k : Nat) : Prop :=
 (L = [] ∧ bs = []) ∨ ∃ R g, a = some ⟨R, 0, none⟩ ∧ bs = [R, g] ∧ R < w.heap.size ∧ g < w.heap.size ∧ L.flatten.length ≤ 1000000 ∧ (∀ i, i < L.length → w.cell? ⟨R, i, none⟩ = some (ctV g (stN L) i)) ∧
  ∀ j, j < L.flatten.length * 2 → w.cell? ⟨g, j, none⟩ = some (.int .i64 ((k + j : Nat) : Int))
theorem PieL.alike {w w' : World} {a : Option Addr} {L : List (List PtD)} {bs : List Nat} (h : PieL w a L bs) (_ : Stays 1 RowE) (hA : Alike w w' bs) : PieL w' a L bs := by
 rcases h with h | ⟨R, g, h1, h2, h3, h4, h5, h6, h7, h8, h9⟩
 ·exact .inl h
 ·subst h2
  have aR := hA R (by simp)
  have ag := hA g (by simp)
  exact .inr ⟨R, g, h1, rfl, h3, aR.1, ag.1, h6, h7, fun i hi => (aR.2.1 i).trans (h8 i hi), fun j hj => ⟨(ag.2.1 _).trans (h9 j hj).1, (ag.2.1 _).trans (h9 j hj).2⟩⟩
theorem PieL.lt {w : World} {a : Option Addr} {L : List (List PtD)} {bs : List Nat} (h : PieL w a L bs) (_ : Stays 1 RowE) : ∀ x ∈ bs, x < w.heap.size := by
 rcases h with ⟨_, rfl⟩ | ⟨R, g, _, rfl, _, h4, h5, _⟩
 ·exact fun _ h => nomatch h
 ·intro x hx
  simp only [List.mem_cons, List.not_mem_nil, or_false] at hx
  rcases hx with rfl | rfl
  ·exact h4
  ·exact h5
theorem PieL.bel {w w' : World} {a : Option Addr} {L : List (List PtD)} {bs : List Nat} (h : PieL w a L bs) (s : Stays 1 RowE) (hb : Bel w w') : PieL w' a L bs := h.alike s (Alike.bel hb (h.lt s))
theorem MkL.bel {w w' : World} {a : Option Addr} {L : List (List PtD)} {bs : List Nat} {k : Nat} (h : MkL w a L bs k) (_ : Stays 1 RowE) (hb : Bel w w') : MkL w' a L bs k := by
 rcases h with h | ⟨R, g, h1, h2, h4, h5, h7, h8, h9⟩
 ·exact .inl h
 ·exact .inr ⟨R, g, h1, h2, bel_lt hb h4, bel_lt hb h5, h7, fun i hi => bel_cellM hb h4 (h8 i hi), fun j hj => bel_cellM hb h5 (h9 j hj)⟩
/-- They are read as rows. -/
theorem PieL.rows {w : World} {a : Option Addr} {L : List (List PtD)} {bs : List Nat} (h : PieL w a L bs) : ∃ bs', RowsL w a L bs' := by
 rcases h with ⟨rfl, _⟩ | ⟨R, g, h1, h2, h3, h4, h5, h6, h7, h8, h9⟩
 ·exact ⟨[], .inl ⟨rfl, rfl⟩⟩
 ·refine ⟨_, .inr ⟨R, 0, fun i => g :: (List.range ((L[i]?.getD []).length)).flatMap fun _ => [], h1, h4, rfl, fun i hi => ?_⟩⟩
  have hlen : L[i].length ≤ L.flatten.length := by
   have h1 := stN_succ hi
   have h2 : stN L (i + 1) ≤ L.flatten.length := by
    unfold stN
    have := congrArg (fun l => l.flatten.length) (List.take_append_drop (i + 1) L)
    simp only [List.flatten_append, List.length_append] at this
    omega
   omega
  refine ⟨some ⟨g, stN L i * 2, none⟩, L[i].length, by unfold maxLen; omega, ?_, ?_⟩
  ·rw [Nat.mul_one, Nat.zero_add, h8 i hi]
   unfold ctV
   have e : stN L (i + 1) - stN L i = L[i].length := by rw [stN_succ hi]; omega
   rw [e]
  ·have e : (L[i]?.getD []).length = L[i].length := by simp [hi]
   show PtL w (some ⟨g, stN L i * 2, none⟩) L[i] (g :: (List.range ((L[i]?.getD []).length)).flatMap fun _ => [])
   rw [e]
   refine .inr ⟨g, stN L i * 2, fun _ => [], rfl, h5, rfl, fun j hj => ?_⟩
   obtain ⟨hf, hv⟩ := flat_at hi hj
   obtain ⟨c0, c1⟩ := h9 _ hf
   rw [hv] at c0 c1
   have h64 := h6.in64 L[i] (List.getElem_mem hi) L[i][j] (List.getElem_mem hj)
   have e2 : (stN L i + j) * 2 = stN L i * 2 + j * 2 := by omega
   rw [e2] at c0 c1
   exact ⟨rfl, h64.1, h64.2, c0, c1⟩

/-- Cells lo .. hi - 1 of block g are numbered from k on, all else is as it was. -/
structure Mk (w wr : World) (g lo hi k : Nat) : Prop where
 cell : ∀ j, lo + j < hi → wr.cell? ⟨g, lo + j, none⟩ = some (.int .i64 ((k + j : Nat) : Int))
 oth : ∀ b o, (b ≠ g ∨ o < lo ∨ hi ≤ o) → wr.cell? ⟨b, o, none⟩ = w.cell? ⟨b, o, none⟩
 fro : ∀ b o, wr.frozen? ⟨b, o, none⟩ = w.frozen? ⟨b, o, none⟩
 onl : Onl [g] w wr
theorem Mk.refl (w : World) (g lo k : Nat) : Mk w w g lo lo k := ⟨fun j h => absurd h (by omega), fun _ _ _ => rfl, fun _ _ => rfl, Onl.refl _ _⟩
theorem Mk.add {w wr : World} {g lo hi k : Nat} (h : Mk w wr g lo hi k) (hl : lo ≤ hi) {u v : Value} (h0 : wr.cell? ⟨g, hi, none⟩ = some u) (h1 : wr.cell? ⟨g, hi + 1, none⟩ = some v) {x : Nat} (hx : x = k + (hi - lo)) :
  Mk w ((wr.setCell ⟨g, hi, none⟩ (.int .i64 (x : Int))).setCell ⟨g, hi + 1, none⟩ (.int .i64 ((x : Int) + 1))) g lo (hi + 2) k := by
 have h1' : (wr.setCell ⟨g, hi, none⟩ (.int .i64 (x : Int))).cell? ⟨g, hi + 1, none⟩ = some v := by rw [World.cell?_setCell_other _ _ _ _ (fun e => by simp at e)]; exact h1
 refine ⟨fun j hj => ?_, fun b o hbo => ?_, fun b o => ?_, (h.onl.set (by simp) _ _).set (by simp) _ _⟩
 ·by_cases e : lo + j = hi + 1
  ·rw [e, World.cell?_setCell_same _ _ _ (by rw [h1'])]
   congr 2 <;> omega
  ·rw [World.cell?_setCell_other _ _ _ _ (fun e2 => e (by simpa using e2.symm))]
   by_cases e3 : lo + j = hi
   ·rw [e3, World.cell?_setCell_same _ _ _ (by rw [h0])]
    congr 2 <;> omega
   ·rw [World.cell?_setCell_other _ _ _ _ (fun e2 => e3 (by simpa using e2.symm))]
    exact h.cell j (by omega)
 ·rw [World.cell?_setCell_other _ _ _ _ (fun e2 => by simp at e2; omega), World.cell?_setCell_other _ _ _ _ (fun e2 => by simp at e2; omega)]
  exact h.oth b o (by omega)
 ·rw [World.frozen?_setCell, World.frozen?_setCell]; exact h.fro b o
end Go.Proofs.YtldfcnlhjjiihaaGreat

namespace Go.Proofs.YtldfcnlhjjiihaaGreat
open Go.RowKit Go.Maps

theorem stN_le {L : List (List PtD)} (i : Nat) : stN L i ≤ L.flatten.length := by
 unfold stN
 have := congrArg (fun l => l.flatten.length) (List.take_append_drop i L)
 simp only [List.flatten_append, List.length_append] at this
 omega
/-- New blocks. -/
structure New2 (w w' : World) (bs : List Nat) : Prop where
 new : ∀ x ∈ bs, w.heap.size ≤ x ∧ x < w'.heap.size
 free : ∀ x ∈ bs, ∀ j, w'.frozen? ⟨x, j, none⟩ = false
theorem New2.bel {w w' w'' : World} {bs : List Nat} (h : New2 w w' bs) (hb : Bel w' w'') : New2 w w'' bs :=
 ⟨fun b hm => ⟨(h.new b hm).1, bel_lt hb (h.new b hm).2⟩, fun b hm j => by rw [hb.out.frozen (p := ⟨b, j, none⟩) (h.new b hm).2]; exact h.free b hm j⟩
theorem clipQ_J {q : BoxD} {n : Nat} {X Y : Nat → Int} (h6 : Box64 q) : GoodP (clipQ q n X Y) ∧ (clipQ q n X Y).length ≤ 2000 ∧ (clipQ q n X Y).flatten.length ≤ 4000 := by
 unfold clipQ
 split
 ·rename_i h
  rw [Bool.and_eq_true] at h
  have hn := (rowB_out h.1).1
  have ho : q.a ≤ q.c ∧ q.b ≤ q.d := by have := h.2; unfold ordB at this; simpa using this
  have hj := clpJ (X := X) (Y := Y) ho.1 ho.2 h6 (n - 1)
  exact ⟨hj.good, Nat.le_trans hj.len (by omega), Nat.le_trans hj.flat (by omega)⟩
 ·exact ⟨⟨(fun _ h => nomatch h), (fun _ h => nomatch h)⟩, by simp, by simp⟩
theorem clipI_any (a : Option Addr) (n c : Nat) (X Y : Nat → Int) (q : BoxD) (w : World) (hP : Pts w a n X Y) (hn : n ≤ 1048576) (h6 : Box64 q) :
  Calls Tryz.prog 58 #[.slice a n c, bxv q] w fun e w' => ∃ a' c' bs, e = .returned (.slice a' (clipQ q n X Y).length c') ∧ PieL w' a' (clipQ q n X Y) bs ∧ New2 w w' bs ∧ Bel w w' := by
 refine (clip_any a n c X Y q w hP hn h6).mono ?_
 rintro e w' ⟨v, rfl, hv, hb⟩
 obtain ⟨hg, hl, hfl⟩ := clipQ_J (n := n) (X := X) (Y := Y) h6
 generalize clipQ q n X Y = L at *
 rcases hv.out with ⟨rfl, rfl⟩ | ⟨R, g, rfl, hB, hR, hgg⟩
 ·exact ⟨_, _, [], rfl, .inl ⟨rfl, rfl⟩, ⟨(fun _ h => nomatch h), (fun _ h => nomatch h)⟩, hb⟩
 ·by_cases h0 : L = []
  ·subst h0
   exact ⟨_, _, [], rfl, .inl ⟨rfl, rfl⟩, ⟨(fun _ h => nomatch h), (fun _ h => nomatch h)⟩, hb⟩
  ·obtain ⟨g1, g2, g3, g4, g5⟩ := hgg (hg.pos h0)
   refine ⟨_, _, [R, g], rfl, .inr ⟨R, g, rfl, rfl, fun e => g3 e.symm, hB.lt, g2, hg, by omega, fun i hi => ?_, g5⟩, ⟨fun x hx => ?_, fun x hx j => ?_⟩, hb⟩
   ·have := hB.cell i (by rw [ctR_len]; exact hi)
    rw [this]
    congr 1
    simp only [ctR, List.getElem_map, List.getElem_range]
    rw [if_pos (by omega)]
   ·simp only [List.mem_cons, List.not_mem_nil, or_false] at hx
    rcases hx with rfl | rfl
    ·exact ⟨hR, hB.lt⟩
    ·exact ⟨g1, g2⟩
   ·simp only [List.mem_cons, List.not_mem_nil, or_false] at hx
    rcases hx with rfl | rfl
    ·exact hB.free j
    ·exact g4 j
/-- The model's rows. -/
theorem RwM.rows {lo : Nat} {w : World} {v : Value} {L : List (List PtD)} {G C : Nat → Nat} (h : RwM lo w v L G C) (hg : GoodP L) (hl : ∀ d ∈ L, d.length ≤ 1000000) : ∃ a c bs, v = .slice a L.length c ∧ RowsL w a L bs := by
 obtain ⟨a, c, hv, _⟩ := own_anyW h.own
 by_cases h0 : L = []
 ·subst h0
  exact ⟨a, c, [], hv, .inl ⟨rfl, rfl⟩⟩
 ·have hpos := List.length_pos_iff.2 h0
  obtain ⟨o, co, ho⟩ := own_someW h.own hpos
  rw [hv] at ho
  injection ho with ho1 _ ho3
  subst ho1 ho3
  have hown := h.own
  rw [hv] at hown
  refine ⟨_, _, _, hv, .inr ⟨o, 0, fun i => G i :: (List.range ((L[i]?.getD []).length)).flatMap fun _ => [], rfl, (hown.lt o rfl).2, rfl, fun i hi => ?_⟩⟩
  refine ⟨some ⟨G i, 0, none⟩, C i, by have := hl L[i] (List.getElem_mem hi); unfold maxLen; omega, ?_, ?_⟩
  ·rw [Nat.mul_one, Nat.zero_add, hown.cellAt i (by omega)]; exact rwVs_get hi
  ·have e : (L[i]?.getD []).length = L[i].length := by simp [hi]
   show PtL w (some ⟨G i, 0, none⟩) L[i] (G i :: (List.range ((L[i]?.getD []).length)).flatMap fun _ => [])
   rw [e]
   refine .inr ⟨G i, 0, fun _ => [], rfl, (h.lt hi).2, rfl, fun j hj => ?_⟩
   have hr := h.row i hi
   have h64 := hg.in64 L[i] (List.getElem_mem hi) L[i][j] (List.getElem_mem hj)
   have hx : ∀ (c : List PtD) (j : Nat) (hj : j < c.length), (c.flatMap pqCs)[j * 2]? = some (.int .i64 c[j].x) ∧ (c.flatMap pqCs)[j * 2 + 1]? = some (.int .i64 c[j].y) := fun c j hj => by
    have e := fl_last (c.take j) c[j]
    have hk : (c.take j).length = j := by rw [List.length_take]; omega
    rw [hk] at e
    have e2 : c.flatMap pqCs = (c.take j ++ [c[j]]).flatMap pqCs ++ (c.drop (j + 1)).flatMap pqCs := by
     rw [← List.flatMap_append, List.append_assoc, List.singleton_append, ← List.drop_eq_getElem_cons hj, List.take_append_drop]
    have hl2 : ((c.take j ++ [c[j]]).flatMap pqCs).length = (j + 1) * 2 := by rw [fl_len, List.length_append, hk, List.length_singleton]
    rw [e2]
    exact ⟨by rw [List.getElem?_append_left (by omega)]; exact e.1, by rw [List.getElem?_append_left (by omega)]; exact e.2⟩
   obtain ⟨x0, x1⟩ := hx L[i] j hj
   refine ⟨rfl, h64.1, h64.2, ?_, ?_⟩
   ·rw [Nat.zero_add, hr.cellAt (j * 2) (by omega)]; exact x0
   ·rw [Nat.zero_add, hr.cellAt (j * 2 + 1) (by omega)]; exact x1

end Go.Proofs.YtldfcnlhjjiihaaGreat
