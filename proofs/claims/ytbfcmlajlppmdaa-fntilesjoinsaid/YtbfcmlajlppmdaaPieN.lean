/-
  Clip on both sides, in the words that its law wants; pieces marked and found to be marked.
-/
import Derived.Test.YtbfcmlajlppmdaaPieM
import Derived.Test.YtbfcmlajlppmdaaClpW
namespace Go.Proofs.Ytbfcmlajlppmdaa
open Go.RowKit Go.Maps

theorem stN_le {L : List (List PtD)} (i : Nat) : stN L i ≤ L.flatten.length := by
 unfold stN
 have := congrArg (fun l => l.flatten.length) (List.take_append_drop i L)
 simp only [List.flatten_append, List.length_append] at this
 omega
theorem eqPR_any (a a' : Option Addr) (n c c' : Nat) (L : List (List PtD)) (bs bs' : List Nat) (w : World) (hP : PieL w a L bs) (hP' : RowsL w a' L bs') (hn : L.length = n) (hm : n ≤ 1048576) :
  Calls Try.prog 11 #[.slice a n c, .slice a' n c'] w fun e w' => e = .returned (.bool true) ∧ Bel w w' := by
 obtain ⟨b1, h1⟩ := hP.rows
 refine eqSS_any a a' n c c' L b1 bs' w h1 hP' hn hm fun d hd => ?_
 rcases hP with ⟨rfl, _⟩ | ⟨R, g, _, _, _, _, _, _, h7, _⟩
 ·exact nomatch hd
 ·obtain ⟨i, hi, rfl⟩ := List.getElem_of_mem hd
  have h1 := stN_succ hi
  have h2 := stN_le (L := L) (i + 1)
  omega

set_option maxRecDepth 100000 in
set_option maxHeartbeats 1000000 in
theorem markSS_any (a : Option Addr) (n c : Nat) (L : List (List PtD)) (bs : List Nat) (k : Nat) (w : World) (hT : PieL w a L bs) (hf : ∀ x ∈ bs, ∀ j, w.frozen? ⟨x, j, none⟩ = false) (hn : L.length = n) (hm : n ≤ 1048576) (_h0k : 0 < k) (hk : k ≤ 1048576) :
  Calls Try.prog 14 #[.slice a n c, .int .i64 k] w fun e w' => e = .returned (.int .i64 ((k + 2 * L.flatten.length : Nat) : Int)) ∧ MkL w' a L bs k ∧ True ∧ Onl bs w w' := by
 rcases hT with ⟨rfl, rfl⟩ | ⟨R, g, rfl, rfl, h3, h4, h5, h6, h7, h8, h9⟩
 ·obtain rfl : n = 0 := hn.symm
  go_enter Try.func14, Try.ntmps14
  go_wp2
  go_loopw [1, 5] (fun t i wr => t = .int .i64 k ∧ i = .int .i64 0 ∧ wr = w) (fun _ _ _ => 0)
  case atStart => exact ⟨rfl, rfl, rfl⟩
  case round =>
   obtain ⟨rfl, rfl, rfl⟩ := hrel
   go_wp2
   go_ret
   exact ⟨by simp, .inl ⟨rfl, rfl⟩, trivial, Onl.refl _ _⟩
 have Hn : Hid (L.length = n) := hn
 have H8 : Hid (∀ i, i < L.length → w.cell? ⟨R, i, none⟩ = some (ctV g (stN L) i)) := h8
 have HC : Hid (∀ o, o < L.flatten.length * 2 → ∃ v, w.cell? ⟨g, o, none⟩ = some v) := fun o ho => by
  obtain ⟨c0, c1⟩ := h9 (o / 2) (by omega)
  rcases Nat.mod_two_eq_zero_or_one o with e | e
  ·have : o = o / 2 * 2 := by omega
   rw [this]; exact ⟨_, c0⟩
  ·have : o = o / 2 * 2 + 1 := by omega
   rw [this]; exact ⟨_, c1⟩
 have HF : Hid (∀ j, w.frozen? ⟨g, j, none⟩ = false) := hf g (by simp)
 have hT7 : L.flatten.length ≤ 1000000 := h7
 obtain ⟨TT, HTT⟩ : ∃ T, Hid (L.flatten.length = T) := ⟨_, (rfl : L.flatten.length = _)⟩
 rw [HTT.out] at hT7 ⊢
 clear h8 h9 hf h6 hn h7
 go_enter Try.func14, Try.ntmps14
 go_wp2
 go_loopw [1, 5] (fun t i wr => ∃ j : Nat, j ≤ n ∧ i = .int .i64 j ∧ t = .int .i64 ((k + 2 * stN L j : Nat) : Int) ∧ Mk w wr g 0 (stN L j * 2) k) (fun _ i _ => n - (intOf i).toNat)
 case atStart => exact ⟨0, Nat.zero_le _, rfl, by simp [stN], by simpa [stN] using Mk.refl w g 0 k⟩
 case round =>
  obtain ⟨j, hj, rfl, rfl, hM⟩ := hrel
  have hgr := Nat.lt_of_lt_of_le h5 hM.onl.size
  have hRr := Nat.lt_of_lt_of_le h4 hM.onl.size
  by_cases hlt : j < n
  ·have hjl : j < L.length := by rw [Hn.out]; exact hlt
   have e1 := stN_succ hjl
   have e2 := stN_le (L := L) (j + 1)
   rw [HTT.out] at e2
   obtain ⟨s, Hs⟩ : ∃ s, Hid (stN L j = s) := ⟨_, (rfl : stN L j = _)⟩
   obtain ⟨q, Hq⟩ : ∃ q, Hid (L[j].length = q) := ⟨_, (rfl : L[j].length = _)⟩
   have c0 : wr.cell? ⟨R, j, none⟩ = some (.slice (some ⟨g, s * 2, none⟩) q q) := by
    rw [hM.oth R j (.inl h3), H8.out j hjl]
    unfold ctV
    rw [Hs.out] at e1 ⊢
    rw [Hq.out] at e1
    rw [e1]
    congr 2 <;> omega
   rw [Hs.out, Hq.out] at e1
   rw [Hs.out] at hM ⊢
   obtain ⟨kk, hkk⟩ : ∃ kk, k + 2 * s = kk := ⟨_, rfl⟩
   have cM := markRow_any g (s * 2) q q kk wr hgr (fun o ho => by
    rw [hM.oth g (s * 2 + o) (.inr (.inr (by omega)))]
    exact HC.out _ (by rw [HTT.out]; omega)) (fun o => (hM.fro g o).trans (HF.out o)) (by omega) (by omega)
   have HJ : Hid (∀ w', Mk wr w' g (s * 2) (s * 2 + q * 2) kk → Mk w w' g 0 (stN L (j + 1) * 2) k) := fun w' h => by
    have := hM.join (k2 := kk) h (by omega) (by omega) (by omega)
    have e : stN L (j + 1) * 2 = s * 2 + q * 2 := by omega
    rw [e]; exact this
   obtain ⟨k3, Hk3⟩ : ∃ x, Hid (kk + 2 * q = x) := ⟨_, (rfl : kk + 2 * q = _)⟩
   have HK : Hid (k + 2 * stN L (j + 1) = k3) := (by rw [← Hk3.out]; omega : k + 2 * stN L (j + 1) = k3)
   rw [Hk3.out] at cM
   have hlt' : (j : Int) < (n : Int) := by omega
   rw [hkk]
   clear hM hkk e1 e2
   go_wp2_with fail
   refine cM.mono ?_
   rintro e w1 ⟨rfl, hM1⟩
   have HM1 := HJ.out _ hM1
   have HM2 : Hid (Mk w w1 g 0 (stN L (j + 1) * 2) k) := HM1
   clear hM1 HM1 c0 cM
   go_wp2
   go_roundw
   case rel => exact ⟨j + 1, by omega, by go_num, by rw [HK.out], HM2.out⟩
   case measure => simp [intOf]; omega
  ·have e : n = j := by omega
   subst e
   have e3 : stN L n = TT := by rw [← Hn.out, ← HTT.out]; exact stN_all L
   rw [e3] at hM ⊢
   have HO : Hid (MkL wr (some ⟨R, 0, none⟩) L [R, g] k ∧ Onl [R, g] w wr) := by
    refine ⟨.inr ⟨R, g, rfl, rfl, hRr, hgr, by rw [HTT.out]; exact hT7, fun i hi => (hM.oth R i (.inl h3)).trans (H8.out i hi), fun o ho => ?_⟩, hM.onl.mono (fun x hx => by simp at hx; simp [hx])⟩
    have := hM.cell o (by rw [HTT.out] at ho; omega)
    rw [Nat.zero_add] at this
    exact this
   clear hM
   go_wp2
   go_ret
   exact ⟨rfl, HO.out.1, trivial, HO.out.2⟩

set_option maxRecDepth 100000 in
set_option maxHeartbeats 1000000 in
theorem heldSS_any (a : Option Addr) (n c : Nat) (L : List (List PtD)) (bs : List Nat) (k : Nat) (w : World) (hT : MkL w a L bs k) (hn : L.length = n) (hm : n ≤ 1048576) (hk : k ≤ 1048576) :
  Calls Try.prog 15 #[.slice a n c, .int .i64 k] w fun e w' => e = .returned (.int .i64 ((k + 2 * L.flatten.length : Nat) : Int)) ∧ w' = w := by
 rcases hT with ⟨rfl, rfl⟩ | ⟨R, g, rfl, rfl, h4, h5, h7, h8, h9⟩
 ·obtain rfl : n = 0 := hn.symm
  go_enter Try.func15, Try.ntmps15
  go_wp2
  go_loopw [1, 5] (fun t i wr => t = .int .i64 k ∧ i = .int .i64 0 ∧ wr = w) (fun _ _ _ => 0)
  case atStart => exact ⟨rfl, rfl, rfl⟩
  case round =>
   obtain ⟨rfl, rfl, rfl⟩ := hrel
   go_wp2
   go_ret
   exact ⟨by simp, rfl⟩
 have Hn : Hid (L.length = n) := hn
 have H8 : Hid (∀ i, i < L.length → w.cell? ⟨R, i, none⟩ = some (ctV g (stN L) i)) := h8
 have H9 : Hid (∀ j, j < L.flatten.length * 2 → w.cell? ⟨g, j, none⟩ = some (.int .i64 ((k + j : Nat) : Int))) := h9
 have hT7 : L.flatten.length ≤ 1000000 := h7
 obtain ⟨TT, HTT⟩ : ∃ T, Hid (L.flatten.length = T) := ⟨_, (rfl : L.flatten.length = _)⟩
 rw [HTT.out] at hT7 ⊢
 clear h8 h9 hn h7
 go_enter Try.func15, Try.ntmps15
 go_wp2
 go_loopw [1, 5] (fun t i wr => ∃ j : Nat, j ≤ n ∧ i = .int .i64 j ∧ t = .int .i64 ((k + 2 * stN L j : Nat) : Int) ∧ wr = w) (fun _ i _ => n - (intOf i).toNat)
 case atStart => exact ⟨0, Nat.zero_le _, rfl, by simp [stN], rfl⟩
 case round =>
  obtain ⟨j, hj, rfl, rfl, rfl⟩ := hrel
  by_cases hlt : j < n
  ·have hjl : j < L.length := by rw [Hn.out]; exact hlt
   have e1 := stN_succ hjl
   have e2 := stN_le (L := L) (j + 1)
   rw [HTT.out] at e2
   obtain ⟨s, Hs⟩ : ∃ s, Hid (stN L j = s) := ⟨_, (rfl : stN L j = _)⟩
   obtain ⟨q, Hq⟩ : ∃ q, Hid (L[j].length = q) := ⟨_, (rfl : L[j].length = _)⟩
   have c0 : wr.cell? ⟨R, j, none⟩ = some (.slice (some ⟨g, s * 2, none⟩) q q) := by
    rw [H8.out j hjl]
    unfold ctV
    rw [Hs.out] at e1 ⊢
    rw [Hq.out] at e1
    rw [e1]
    congr 2 <;> omega
   rw [Hs.out, Hq.out] at e1
   rw [Hs.out]
   obtain ⟨kk, hkk⟩ : ∃ kk, k + 2 * s = kk := ⟨_, rfl⟩
   have cM := heldRow_any g (s * 2) q q kk wr h5 (fun o ho => by
    rw [H9.out (s * 2 + o) (by rw [HTT.out]; omega)]
    congr 3; omega) (by omega) (by omega)
   obtain ⟨k3, Hk3⟩ : ∃ x, Hid (kk + 2 * q = x) := ⟨_, (rfl : kk + 2 * q = _)⟩
   have HK : Hid (k + 2 * stN L (j + 1) = k3) := (by rw [← Hk3.out]; omega : k + 2 * stN L (j + 1) = k3)
   rw [Hk3.out] at cM
   have hk3 : ¬ (k3 : Int) < 0 := by omega
   have hlt' : (j : Int) < (n : Int) := by omega
   rw [hkk]
   clear hkk e1 e2
   go_wp2_with fail
   refine cM.mono ?_
   rintro e w1 ⟨rfl, rfl⟩
   clear c0 cM
   go_wp2
   go_roundw
   case rel => exact ⟨j + 1, by omega, by go_num, by rw [HK.out], trivial⟩
   case measure => simp [intOf]; omega
  ·have e : n = j := by omega
   subst e
   have e3 : stN L n = TT := by rw [← Hn.out, ← HTT.out]; exact stN_all L
   rw [e3]
   go_wp2
   go_ret
   exact ⟨rfl, rfl⟩

/-- New blocks. -/
structure New2 (w w' : World) (bs : List Nat) : Prop where
 new : ∀ x ∈ bs, w.heap.size ≤ x ∧ x < w'.heap.size
 free : ∀ x ∈ bs, ∀ j, w'.frozen? ⟨x, j, none⟩ = false
theorem New2.bel {w w' w'' : World} {bs : List Nat} (h : New2 w w' bs) (hb : Bel w' w'') : New2 w w'' bs :=
 ⟨fun b hm => ⟨(h.new b hm).1, bel_lt hb (h.new b hm).2⟩, fun b hm j => by rw [hb.out.frozen (p := ⟨b, j, none⟩) (h.new b hm).2]; exact h.free b hm j⟩
theorem clipQ_J {q : BoxD} {n : Nat} {X Y : Nat → Int} (h6 : Box64 q) : GoodP (clipQ q n X Y) ∧ (clipQ q n X Y).length ≤ 2000 ∧ (clipQ q n X Y).flatten.length ≤ 4000 := by
 unfold clipQ
 split
 ·rename_i h
  rw [Bool.and_eq_true] at h
  have hn := (rowB_out h.1).1
  have ho : q.a ≤ q.c ∧ q.b ≤ q.d := by have := h.2; unfold ordB at this; simpa using this
  have hj := clpJ (X := X) (Y := Y) ho.1 ho.2 h6 (n - 1)
  exact ⟨hj.good, Nat.le_trans hj.len (by omega), Nat.le_trans hj.flat (by omega)⟩
 ·exact ⟨⟨(fun _ h => nomatch h), (fun _ h => nomatch h)⟩, by simp, by simp⟩
theorem clipQ_len {q : BoxD} {n : Nat} {X Y : Nat → Int} : (clipQ q n X Y).length ≤ n := by
 unfold clipQ
 split
 ·have : ∀ k, (clpQ q X Y k).1.length ≤ k := fun k => by
   induction k with
   | zero => exact Nat.le_refl _
   | succ k ih =>
    unfold clpQ
    cases strC q (X k) (Y k) (X (k + 1)) (Y (k + 1)) with
    | none => exact Nat.le_succ_of_le ih
    | some t => exact Nat.le_trans (addC_len _ _ _ _) (Nat.succ_le_succ ih)
  exact Nat.le_trans (this (n - 1)) (by omega)
 ·simp
theorem clipI_any (a : Option Addr) (n c : Nat) (X Y : Nat → Int) (q : BoxD) (w : World) (hP : Pts w a n X Y) (hn : n ≤ 1048576) (h6 : Box64 q) :
  Calls Try.prog 10 #[.slice a n c, bxv q] w fun e w' => ∃ a' c' bs, e = .returned (.slice a' (clipQ q n X Y).length c') ∧ PieL w' a' (clipQ q n X Y) bs ∧ New2 w w' bs ∧ Bel w w' := by
 refine (clip_any a n c X Y q w hP hn h6).mono ?_
 rintro e w' ⟨v, rfl, hv, hb⟩
 obtain ⟨hg, hl, hfl⟩ := clipQ_J (n := n) (X := X) (Y := Y) h6
 generalize clipQ q n X Y = L at *
 rcases hv.out with ⟨rfl, rfl⟩ | ⟨R, g, rfl, hB, hR, hgg⟩
 ·exact ⟨_, _, [], rfl, .inl ⟨rfl, rfl⟩, ⟨(fun _ h => nomatch h), (fun _ h => nomatch h)⟩, hb⟩
 ·by_cases h0 : L = []
  ·subst h0
   exact ⟨_, _, [], rfl, .inl ⟨rfl, rfl⟩, ⟨(fun _ h => nomatch h), (fun _ h => nomatch h)⟩, hb⟩
  ·obtain ⟨g1, g2, g3, g4, g5⟩ := hgg (hg.pos h0)
   refine ⟨_, _, [R, g], rfl, .inr ⟨R, g, rfl, rfl, fun e => g3 e.symm, hB.lt, g2, hg, by omega, fun i hi => ?_, g5⟩, ⟨fun x hx => ?_, fun x hx j => ?_⟩, hb⟩
   ·have := hB.cell i (by rw [ctR_len]; exact hi)
    rw [this]
    congr 1
    simp only [ctR, List.getElem_map, List.getElem_range]
    rw [if_pos (by omega)]
   ·simp only [List.mem_cons, List.not_mem_nil, or_false] at hx
    rcases hx with rfl | rfl
    ·exact ⟨hR, hB.lt⟩
    ·exact ⟨g1, g2⟩
   ·simp only [List.mem_cons, List.not_mem_nil, or_false] at hx
    rcases hx with rfl | rfl
    ·exact hB.free j
    ·exact g4 j
/-- The model's rows. -/
theorem RwM.rows {lo : Nat} {w : World} {v : Value} {L : List (List PtD)} {G C : Nat → Nat} (h : RwM lo w v L G C) (hg : GoodP L) (hl : ∀ d ∈ L, d.length ≤ 1000000) : ∃ a c bs, v = .slice a L.length c ∧ RowsL w a L bs := by
 obtain ⟨a, c, hv, _⟩ := own_anyW h.own
 by_cases h0 : L = []
 ·subst h0
  exact ⟨a, c, [], hv, .inl ⟨rfl, rfl⟩⟩
 ·have hpos := List.length_pos_iff.2 h0
  obtain ⟨o, co, ho⟩ := own_someW h.own hpos
  rw [hv] at ho
  injection ho with ho1 _ ho3
  subst ho1 ho3
  have hown := h.own
  rw [hv] at hown
  refine ⟨_, _, _, hv, .inr ⟨o, 0, fun i => G i :: (List.range ((L[i]?.getD []).length)).flatMap fun _ => [], rfl, (hown.lt o rfl).2, rfl, fun i hi => ?_⟩⟩
  refine ⟨some ⟨G i, 0, none⟩, C i, by have := hl L[i] (List.getElem_mem hi); unfold maxLen; omega, ?_, ?_⟩
  ·rw [Nat.mul_one, Nat.zero_add, hown.cellAt i (by omega)]; exact rwVs_get hi
  ·have e : (L[i]?.getD []).length = L[i].length := by simp [hi]
   show PtL w (some ⟨G i, 0, none⟩) L[i] (G i :: (List.range ((L[i]?.getD []).length)).flatMap fun _ => [])
   rw [e]
   refine .inr ⟨G i, 0, fun _ => [], rfl, (h.lt hi).2, rfl, fun j hj => ?_⟩
   have hr := h.row i hi
   have h64 := hg.in64 L[i] (List.getElem_mem hi) L[i][j] (List.getElem_mem hj)
   have hx : ∀ (c : List PtD) (j : Nat) (hj : j < c.length), (c.flatMap pqCs)[j * 2]? = some (.int .i64 c[j].x) ∧ (c.flatMap pqCs)[j * 2 + 1]? = some (.int .i64 c[j].y) := fun c j hj => by
    have e := fl_last (c.take j) c[j]
    have hk : (c.take j).length = j := by rw [List.length_take]; omega
    rw [hk] at e
    have e2 : c.flatMap pqCs = (c.take j ++ [c[j]]).flatMap pqCs ++ (c.drop (j + 1)).flatMap pqCs := by
     rw [← List.flatMap_append, List.append_assoc, List.singleton_append, ← List.drop_eq_getElem_cons hj, List.take_append_drop]
    have hl2 : ((c.take j ++ [c[j]]).flatMap pqCs).length = (j + 1) * 2 := by rw [fl_len, List.length_append, hk, List.length_singleton]
    rw [e2]
    exact ⟨by rw [List.getElem?_append_left (by omega)]; exact e.1, by rw [List.getElem?_append_left (by omega)]; exact e.2⟩
   obtain ⟨x0, x1⟩ := hx L[i] j hj
   refine ⟨rfl, h64.1, h64.2, ?_, ?_⟩
   ·rw [Nat.zero_add, hr.cellAt (j * 2) (by omega)]; exact x0
   ·rw [Nat.zero_add, hr.cellAt (j * 2 + 1) (by omega)]; exact x1

set_option maxRecDepth 100000 in
set_option maxHeartbeats 2000000 in
theorem clipS_any (a : Option Addr) (n c : Nat) (X Y : Nat → Int) (q : BoxD) (w : World) (hP : Pts w a n X Y) (hn : n ≤ 1048576) (h6 : Box64 q) :
  Calls Try.prog 7 #[.slice a n c, bxv q] w fun e w' => ∃ a' c' bs, e = .returned (.slice a' (clipQ q n X Y).length c') ∧ RowsL w' a' (clipQ q n X Y) bs ∧ True ∧ Bel w w' := by
 have S0 : Bel w (w.alloc (.cells #[.int .i64 q.a, .int .i64 q.b, .int .i64 q.c, .int .i64 q.d] 34)) := bel_alloc (Bel.refl _) _
 have X0 : Blk (w.alloc (.cells #[.int .i64 q.a, .int .i64 q.b, .int .i64 q.c, .int .i64 q.d] 34)) w.heap.size [.int .i64 q.a, .int .i64 q.b, .int .i64 q.c, .int .i64 q.d] := Blk.new w [.int .i64 q.a, .int .i64 q.b, .int .i64 q.c, .int .i64 q.d] _
 rcases Bool.eq_false_or_eq_true (rowB n X Y) with hr | hr
 rotate_left
 ·have HL : Hid (clipQ q n X Y = []) := (by unfold clipQ; rw [hr]; rfl : clipQ q n X Y = [])
  go_enter Try.func7, Try.ntmps7
  go_wp2_with fail
  refine (specRowOk_any _ _ _ X Y _ (hP.bel S0) hn).mono ?_
  rintro e w1 ⟨rfl, hb1⟩
  rw [hr]
  go_wp2
  go_ret
  rw [HL.out]
  exact ⟨_, _, [], rfl, .inl ⟨rfl, rfl⟩, trivial, bel_alloc (bel_step S0 hb1) _⟩
 by_cases hx : q.a ≤ q.c
 rotate_left
 ·have HL : Hid (clipQ q n X Y = []) := (by unfold clipQ ordB; rw [hr]; simp [hx] : clipQ q n X Y = [])
  go_enter Try.func7, Try.ntmps7
  go_wp2_with fail
  refine (specRowOk_any _ _ _ X Y _ (hP.bel S0) hn).mono ?_
  rintro e w1 ⟨rfl, hb1⟩
  rw [hr]
  have X1 := X0.bel hb1
  have x0 : w1.cell? ⟨w.heap.size, 0, none⟩ = some (.int .i64 q.a) := X1.cell 0 (by simp)
  have x2 : w1.cell? ⟨w.heap.size, 2, none⟩ = some (.int .i64 q.c) := X1.cell 2 (by simp)
  go_wp2
  go_ret
  rw [HL.out]
  exact ⟨_, _, [], rfl, .inl ⟨rfl, rfl⟩, trivial, bel_alloc (bel_step S0 hb1) _⟩
 by_cases hy : q.b ≤ q.d
 rotate_left
 ·have HL : Hid (clipQ q n X Y = []) := (by unfold clipQ ordB; rw [hr]; simp [hy] : clipQ q n X Y = [])
  go_enter Try.func7, Try.ntmps7
  go_wp2_with fail
  refine (specRowOk_any _ _ _ X Y _ (hP.bel S0) hn).mono ?_
  rintro e w1 ⟨rfl, hb1⟩
  rw [hr]
  have X1 := X0.bel hb1
  have x0 : w1.cell? ⟨w.heap.size, 0, none⟩ = some (.int .i64 q.a) := X1.cell 0 (by simp)
  have x1 : w1.cell? ⟨w.heap.size, 1, none⟩ = some (.int .i64 q.b) := X1.cell 1 (by simp)
  have x2 : w1.cell? ⟨w.heap.size, 2, none⟩ = some (.int .i64 q.c) := X1.cell 2 (by simp)
  have x3 : w1.cell? ⟨w.heap.size, 3, none⟩ = some (.int .i64 q.d) := X1.cell 3 (by simp)
  go_wp2
  go_ret
  rw [HL.out]
  exact ⟨_, _, [], rfl, .inl ⟨rfl, rfl⟩, trivial, bel_alloc (bel_step S0 hb1) _⟩
 have HL : Hid (clipQ q n X Y = (clpQ q X Y (n - 1)).1) := (by unfold clipQ ordB; rw [hr]; simp [hx, hy] : clipQ q n X Y = (clpQ q X Y (n - 1)).1)
 obtain ⟨hn2, hPO⟩ := rowB_out hr
 have HPO : Hid (∀ i, i < n → POk (X i) (Y i)) := hPO
 clear hPO
 go_enter Try.func7, Try.ntmps7
 go_wp2_with fail
 refine (specRowOk_any _ _ _ X Y _ (hP.bel S0) hn).mono ?_
 rintro e w1 ⟨rfl, hb1⟩
 rw [hr]
 have X1 := X0.bel hb1
 have x0 : w1.cell? ⟨w.heap.size, 0, none⟩ = some (.int .i64 q.a) := X1.cell 0 (by simp)
 have x1 : w1.cell? ⟨w.heap.size, 1, none⟩ = some (.int .i64 q.b) := X1.cell 1 (by simp)
 have x2 : w1.cell? ⟨w.heap.size, 2, none⟩ = some (.int .i64 q.c) := X1.cell 2 (by simp)
 have x3 : w1.cell? ⟨w.heap.size, 3, none⟩ = some (.int .i64 q.d) := X1.cell 3 (by simp)
 have hB1 := bel_step S0 hb1
 go_wp2_with fail
 refine (l6Clip_any _ _ _ X Y q _ (hP.bel hB1) hn2 HPO.out hx hy h6).mono ?_
 rintro e w2 ⟨v, rfl, hM, hb2⟩
 have hj := clpJ (X := X) (Y := Y) hx hy h6 (n - 1)
 have HO : Hid (∃ a' c' bs, v = .slice a' (clipQ q n X Y).length c' ∧ RowsL w2 a' (clipQ q n X Y) bs) := by
  rw [HL.out]
  obtain ⟨lo, G, C, hR⟩ := hM.out
  refine hR.rows hj.good fun d hd => ?_
  obtain ⟨i, hi, rfl⟩ := List.getElem_of_mem hd
  have h1 := stN_succ hi
  have h2 := stN_le (L := (clpQ q X Y (n - 1)).1) (i + 1)
  have := hj.flat
  omega
 clear x0 x1 x2 x3 X1 X0 hM hj
 go_wp2
 go_ret
 obtain ⟨a', c', bs, rfl, h⟩ := HO.out
 exact ⟨_, _, _, rfl, h, trivial, bel_step hB1 hb2⟩
end Go.Proofs.Ytbfcmlajlppmdaa
