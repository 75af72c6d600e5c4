/-
  Clip on both sides, in the words that its law wants; pieces marked and found to be marked.
-/
import Derived.Test.YtkmccjjghpnejaaPieM
import Derived.Test.YtkmccjjghpnejaaClpW
namespace Go.Proofs.Ytkmccjjghpnejaa
open Go.RowKit Go.Maps

theorem stN_le {L : List (List PtD)} (i : Nat) : stN L i ≤ L.flatten.length := by
 unfold stN
 have := congrArg (fun l => l.flatten.length) (List.take_append_drop i L)
 simp only [List.flatten_append, List.length_append] at this
 omega
/-- New blocks. -/
structure New2 (w w' : World) (bs : List Nat) : Prop where
 new : ∀ x ∈ bs, w.heap.size ≤ x ∧ x < w'.heap.size
 free : ∀ x ∈ bs, ∀ j, w'.frozen? ⟨x, j, none⟩ = false
theorem New2.bel {w w' w'' : World} {bs : List Nat} (h : New2 w w' bs) (hb : Bel w' w'') : New2 w w'' bs :=
 ⟨fun b hm => ⟨(h.new b hm).1, bel_lt hb (h.new b hm).2⟩, fun b hm j => by rw [hb.out.frozen (p := ⟨b, j, none⟩) (h.new b hm).2]; exact h.free b hm j⟩
theorem clipQ_J {q : BoxD} {n : Nat} {X Y : Nat → Int} (h6 : Box64 q) : GoodP (clipQ q n X Y) ∧ (clipQ q n X Y).length ≤ 2000 ∧ (clipQ q n X Y).flatten.length ≤ 4000 := by
 unfold clipQ
 split
 ·rename_i h
  rw [Bool.and_eq_true] at h
  have hn := (rowB_out h.1).1
  have ho : q.a ≤ q.c ∧ q.b ≤ q.d := by have := h.2; unfold ordB at this; simpa using this
  have hj := clpJ (X := X) (Y := Y) ho.1 ho.2 h6 (n - 1)
  exact ⟨hj.good, Nat.le_trans hj.len (by omega), Nat.le_trans hj.flat (by omega)⟩
 ·exact ⟨⟨(fun _ h => nomatch h), (fun _ h => nomatch h)⟩, by simp, by simp⟩
theorem clipQ_len {q : BoxD} {n : Nat} {X Y : Nat → Int} : (clipQ q n X Y).length ≤ n := by
 unfold clipQ
 split
 ·have : ∀ k, (clpQ q X Y k).1.length ≤ k := fun k => by
   induction k with
   | zero => exact Nat.le_refl _
   | succ k ih =>
    unfold clpQ
    cases strC q (X k) (Y k) (X (k + 1)) (Y (k + 1)) with
    | none => exact Nat.le_succ_of_le ih
    | some t => exact Nat.le_trans (addC_len _ _ _ _) (Nat.succ_le_succ ih)
  exact Nat.le_trans (this (n - 1)) (by omega)
 ·simp
theorem clipI_any (a : Option Addr) (n c : Nat) (X Y : Nat → Int) (q : BoxD) (w : World) (hP : Pts w a n X Y) (hn : n ≤ 1048576) (h6 : Box64 q) :
  Calls Try.prog 12 #[.slice a n c, bxv q] w fun e w' => ∃ a' c' bs, e = .returned (.slice a' (clipQ q n X Y).length c') ∧ PieL w' a' (clipQ q n X Y) bs ∧ New2 w w' bs ∧ Bel w w' := by
 refine (clip_any a n c X Y q w hP hn h6).mono ?_
 rintro e w' ⟨v, rfl, hv, hb⟩
 obtain ⟨hg, hl, hfl⟩ := clipQ_J (n := n) (X := X) (Y := Y) h6
 generalize clipQ q n X Y = L at *
 rcases hv.out with ⟨rfl, rfl⟩ | ⟨R, g, rfl, hB, hR, hgg⟩
 ·exact ⟨_, _, [], rfl, .inl ⟨rfl, rfl⟩, ⟨(fun _ h => nomatch h), (fun _ h => nomatch h)⟩, hb⟩
 ·by_cases h0 : L = []
  ·subst h0
   exact ⟨_, _, [], rfl, .inl ⟨rfl, rfl⟩, ⟨(fun _ h => nomatch h), (fun _ h => nomatch h)⟩, hb⟩
  ·obtain ⟨g1, g2, g3, g4, g5⟩ := hgg (hg.pos h0)
   refine ⟨_, _, [R, g], rfl, .inr ⟨R, g, rfl, rfl, fun e => g3 e.symm, hB.lt, g2, hg, by omega, fun i hi => ?_, g5⟩, ⟨fun x hx => ?_, fun x hx j => ?_⟩, hb⟩
   ·have := hB.cell i (by rw [ctR_len]; exact hi)
    rw [this]
    congr 1
    simp only [ctR, List.getElem_map, List.getElem_range]
    rw [if_pos (by omega)]
   ·simp only [List.mem_cons, List.not_mem_nil, or_false] at hx
    rcases hx with rfl | rfl
    ·exact ⟨hR, hB.lt⟩
    ·exact ⟨g1, g2⟩
   ·simp only [List.mem_cons, List.not_mem_nil, or_false] at hx
    rcases hx with rfl | rfl
    ·exact hB.free j
    ·exact g4 j
/-- The model's rows. -/
theorem RwM.rows {lo : Nat} {w : World} {v : Value} {L : List (List PtD)} {G C : Nat → Nat} (h : RwM lo w v L G C) (hg : GoodP L) (hl : ∀ d ∈ L, d.length ≤ 1000000) : ∃ a c bs, v = .slice a L.length c ∧ RowsL w a L bs := by
 obtain ⟨a, c, hv, _⟩ := own_anyW h.own
 by_cases h0 : L = []
 ·subst h0
  exact ⟨a, c, [], hv, .inl ⟨rfl, rfl⟩⟩
 ·have hpos := List.length_pos_iff.2 h0
  obtain ⟨o, co, ho⟩ := own_someW h.own hpos
  rw [hv] at ho
  injection ho with ho1 _ ho3
  subst ho1 ho3
  have hown := h.own
  rw [hv] at hown
  refine ⟨_, _, _, hv, .inr ⟨o, 0, fun i => G i :: (List.range ((L[i]?.getD []).length)).flatMap fun _ => [], rfl, (hown.lt o rfl).2, rfl, fun i hi => ?_⟩⟩
  refine ⟨some ⟨G i, 0, none⟩, C i, by have := hl L[i] (List.getElem_mem hi); unfold maxLen; omega, ?_, ?_⟩
  ·rw [Nat.mul_one, Nat.zero_add, hown.cellAt i (by omega)]; exact rwVs_get hi
  ·have e : (L[i]?.getD []).length = L[i].length := by simp [hi]
   show PtL w (some ⟨G i, 0, none⟩) L[i] (G i :: (List.range ((L[i]?.getD []).length)).flatMap fun _ => [])
   rw [e]
   refine .inr ⟨G i, 0, fun _ => [], rfl, (h.lt hi).2, rfl, fun j hj => ?_⟩
   have hr := h.row i hi
   have h64 := hg.in64 L[i] (List.getElem_mem hi) L[i][j] (List.getElem_mem hj)
   have hx : ∀ (c : List PtD) (j : Nat) (hj : j < c.length), (c.flatMap pqCs)[j * 2]? = some (.int .i64 c[j].x) ∧ (c.flatMap pqCs)[j * 2 + 1]? = some (.int .i64 c[j].y) := fun c j hj => by
    have e := fl_last (c.take j) c[j]
    have hk : (c.take j).length = j := by rw [List.length_take]; omega
    rw [hk] at e
    have e2 : c.flatMap pqCs = (c.take j ++ [c[j]]).flatMap pqCs ++ (c.drop (j + 1)).flatMap pqCs := by
     rw [← List.flatMap_append, List.append_assoc, List.singleton_append, ← List.drop_eq_getElem_cons hj, List.take_append_drop]
    have hl2 : ((c.take j ++ [c[j]]).flatMap pqCs).length = (j + 1) * 2 := by rw [fl_len, List.length_append, hk, List.length_singleton]
    rw [e2]
    exact ⟨by rw [List.getElem?_append_left (by omega)]; exact e.1, by rw [List.getElem?_append_left (by omega)]; exact e.2⟩
   obtain ⟨x0, x1⟩ := hx L[i] j hj
   refine ⟨rfl, h64.1, h64.2, ?_, ?_⟩
   ·rw [Nat.zero_add, hr.cellAt (j * 2) (by omega)]; exact x0
   ·rw [Nat.zero_add, hr.cellAt (j * 2 + 1) (by omega)]; exact x1

set_option maxRecDepth 100000 in
set_option maxHeartbeats 2000000 in
theorem clipS_any (a : Option Addr) (n c : Nat) (X Y : Nat → Int) (q : BoxD) (w : World) (hP : Pts w a n X Y) (hn : n ≤ 1048576) (h6 : Box64 q) :
  Calls Try.prog 13 #[.slice a n c, bxv q] w fun e w' => ∃ a' c' bs, e = .returned (.slice a' (clipQ q n X Y).length c') ∧ RowsL w' a' (clipQ q n X Y) bs ∧ True ∧ Bel w w' := by
 have S0 : Bel w (w.alloc (.cells #[.int .i64 q.a, .int .i64 q.b, .int .i64 q.c, .int .i64 q.d] 33)) := bel_alloc (Bel.refl _) _
 have X0 : Blk (w.alloc (.cells #[.int .i64 q.a, .int .i64 q.b, .int .i64 q.c, .int .i64 q.d] 33)) w.heap.size [.int .i64 q.a, .int .i64 q.b, .int .i64 q.c, .int .i64 q.d] := Blk.new w [.int .i64 q.a, .int .i64 q.b, .int .i64 q.c, .int .i64 q.d] _
 rcases Bool.eq_false_or_eq_true (rowB n X Y) with hr | hr
 rotate_left
 ·have HL : Hid (clipQ q n X Y = []) := (by unfold clipQ; rw [hr]; rfl : clipQ q n X Y = [])
  go_enter Try.func13, Try.ntmps13
  go_wp2_with fail
  refine (specRowOk_any _ _ _ X Y _ (hP.bel S0) hn).mono ?_
  rintro e w1 ⟨rfl, hb1⟩
  rw [hr]
  go_wp2
  go_ret
  rw [HL.out]
  exact ⟨_, _, [], rfl, .inl ⟨rfl, rfl⟩, trivial, bel_alloc (bel_step S0 hb1) _⟩
 by_cases hx : q.a ≤ q.c
 rotate_left
 ·have HL : Hid (clipQ q n X Y = []) := (by unfold clipQ ordB; rw [hr]; simp [hx] : clipQ q n X Y = [])
  go_enter Try.func13, Try.ntmps13
  go_wp2_with fail
  refine (specRowOk_any _ _ _ X Y _ (hP.bel S0) hn).mono ?_
  rintro e w1 ⟨rfl, hb1⟩
  rw [hr]
  have X1 := X0.bel hb1
  have x0 : w1.cell? ⟨w.heap.size, 0, none⟩ = some (.int .i64 q.a) := X1.cell 0 (by simp)
  have x2 : w1.cell? ⟨w.heap.size, 2, none⟩ = some (.int .i64 q.c) := X1.cell 2 (by simp)
  go_wp2
  go_ret
  rw [HL.out]
  exact ⟨_, _, [], rfl, .inl ⟨rfl, rfl⟩, trivial, bel_alloc (bel_step S0 hb1) _⟩
 by_cases hy : q.b ≤ q.d
 rotate_left
 ·have HL : Hid (clipQ q n X Y = []) := (by unfold clipQ ordB; rw [hr]; simp [hy] : clipQ q n X Y = [])
  go_enter Try.func13, Try.ntmps13
  go_wp2_with fail
  refine (specRowOk_any _ _ _ X Y _ (hP.bel S0) hn).mono ?_
  rintro e w1 ⟨rfl, hb1⟩
  rw [hr]
  have X1 := X0.bel hb1
  have x0 : w1.cell? ⟨w.heap.size, 0, none⟩ = some (.int .i64 q.a) := X1.cell 0 (by simp)
  have x1 : w1.cell? ⟨w.heap.size, 1, none⟩ = some (.int .i64 q.b) := X1.cell 1 (by simp)
  have x2 : w1.cell? ⟨w.heap.size, 2, none⟩ = some (.int .i64 q.c) := X1.cell 2 (by simp)
  have x3 : w1.cell? ⟨w.heap.size, 3, none⟩ = some (.int .i64 q.d) := X1.cell 3 (by simp)
  go_wp2
  go_ret
  rw [HL.out]
  exact ⟨_, _, [], rfl, .inl ⟨rfl, rfl⟩, trivial, bel_alloc (bel_step S0 hb1) _⟩
 have HL : Hid (clipQ q n X Y = (clpQ q X Y (n - 1)).1) := (by unfold clipQ ordB; rw [hr]; simp [hx, hy] : clipQ q n X Y = (clpQ q X Y (n - 1)).1)
 obtain ⟨hn2, hPO⟩ := rowB_out hr
 have HPO : Hid (∀ i, i < n → POk (X i) (Y i)) := hPO
 clear hPO
 go_enter Try.func13, Try.ntmps13
 go_wp2_with fail
 refine (specRowOk_any _ _ _ X Y _ (hP.bel S0) hn).mono ?_
 rintro e w1 ⟨rfl, hb1⟩
 rw [hr]
 have X1 := X0.bel hb1
 have x0 : w1.cell? ⟨w.heap.size, 0, none⟩ = some (.int .i64 q.a) := X1.cell 0 (by simp)
 have x1 : w1.cell? ⟨w.heap.size, 1, none⟩ = some (.int .i64 q.b) := X1.cell 1 (by simp)
 have x2 : w1.cell? ⟨w.heap.size, 2, none⟩ = some (.int .i64 q.c) := X1.cell 2 (by simp)
 have x3 : w1.cell? ⟨w.heap.size, 3, none⟩ = some (.int .i64 q.d) := X1.cell 3 (by simp)
 have hB1 := bel_step S0 hb1
 go_wp2_with fail
 refine (l6Clip_any _ _ _ X Y q _ (hP.bel hB1) hn2 HPO.out hx hy h6).mono ?_
 rintro e w2 ⟨v, rfl, hM, hb2⟩
 have hj := clpJ (X := X) (Y := Y) hx hy h6 (n - 1)
 have HO : Hid (∃ a' c' bs, v = .slice a' (clipQ q n X Y).length c' ∧ RowsL w2 a' (clipQ q n X Y) bs) := by
  rw [HL.out]
  obtain ⟨lo, G, C, hR⟩ := hM.out
  refine hR.rows hj.good fun d hd => ?_
  obtain ⟨i, hi, rfl⟩ := List.getElem_of_mem hd
  have h1 := stN_succ hi
  have h2 := stN_le (L := (clpQ q X Y (n - 1)).1) (i + 1)
  have := hj.flat
  omega
 clear x0 x1 x2 x3 X1 X0 hM hj
 go_wp2
 go_ret
 obtain ⟨a', c', bs, rfl, h⟩ := HO.out
 exact ⟨_, _, _, rfl, h, trivial, bel_step hB1 hb2⟩
end Go.Proofs.Ytkmccjjghpnejaa
