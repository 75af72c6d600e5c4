/-
  What is drawn of a tile, as mathematics, as the model counts: rows of a map that can be are rows that can be; lists that are full.
  What is left of a row that can be is pieces that can be: no more points than the row's, each between its neighbours.
-/
import Derived.Test.YtldfcnlhjjiihaaGreatKH
namespace Go.Proofs.YtldfcnlhjjiihaaGreat
open Go.RowKit Go.Maps

theorem ptI_ok {m : MapD} (h : MapOkP m) (y : Int) : pok (ptI m.nodes y).x (ptI m.nodes y).y = true := by
 show nPk m.nodes (posI (nId m.nodes) m.nodes.length y).toNat = true
 by_cases hk : (posI (nId m.nodes) m.nodes.length y).toNat < m.nodes.length
 ·exact h.pl _ hk
 ·unfold nPk
  have e : m.nodes.getD (posI (nId m.nodes) m.nodes.length y).toNat ⟨0, 0, 0, []⟩ = ⟨0, 0, 0, []⟩ := by
   unfold List.getD
   rw [List.getElem?_eq_none (by omega)]
   rfl
  rw [e]
  decide
theorem row_rowB {m : MapD} (h : MapOkP m) {ns : List Int} (hl : ns.length ≤ 2000) : rowB (rowTo m.nodes ns ns.length).length (lx (rowTo m.nodes ns ns.length)) (ly (rowTo m.nodes ns ns.length)) = true := by
 have hlen : (rowTo m.nodes ns ns.length).length = ns.length := by simp [rowTo]
 refine rowB_true (by omega) (fun i hi => ?_)
 have hi' : i < ns.length := by omega
 have e : (rowTo m.nodes ns ns.length).getD i ⟨0, 0⟩ = ptI m.nodes ns[i] := by
  simp [rowTo, List.getD, hi']
 unfold lx ly
 rw [e]
 exact ptI_ok h _
theorem clip_same {q : BoxD} {n : Nat} {X Y : Nat → Int} (h : rowB n X Y = true) (hx : q.a ≤ q.c) (hy : q.b ≤ q.d) : clipQ q n X Y = (clpQ q X Y (n - 1)).1 := by
 unfold clipQ ordB
 rw [if_pos (by simp [h, hx, hy])]
theorem take_full {α : Type} {A B : List α} {M j : Nat} (h : (A.take M ++ B.take j).length = M) : (A ++ B).take M = A.take M ++ B.take j := by
 rw [List.take_append]
 rw [List.length_append, List.length_take, List.length_take] at h
 congr 1
 exact List.take_eq_take_iff.2 (by omega)
theorem take_room {α : Type} {A B : List α} {M : Nat} (h : (A.take M ++ B).length ≤ M) : (A ++ B).take M = A.take M ++ B := by
 rw [List.take_append]
 rw [List.length_append, List.length_take] at h
 congr 1
 by_cases hB : B = []
 ·subst hB; simp
 ·have := List.length_pos_iff.2 hB
  exact List.take_of_length_le (by omega)
/-- The lines of the first k ways, at most 2000. -/
def lnsU (ns : List NodeD) (ws : List WayD) (z x y : Int) (k : Nat) : List LneD := (lnsT ns ws z x y k).take 2000
theorem lnsU_full {ns : List NodeD} {ws : List WayD} {z x y : Int} {k : Nat} (hk : k < ws.length) {j : Nat} (h : (lnM (lnsU ns ws z x y k) (lnsW ns z x y ws[k]) j).length = 2000) : lnsU ns ws z x y (k + 1) = lnM (lnsU ns ws z x y k) (lnsW ns z x y ws[k]) j := by
 unfold lnsU lnM at *
 rw [lnsT_succ hk]
 exact take_full h
theorem lnsU_room {ns : List NodeD} {ws : List WayD} {z x y : Int} {k : Nat} (hk : k < ws.length) {j : Nat} (hj : (lnsW ns z x y ws[k]).length ≤ j) (h : (lnM (lnsU ns ws z x y k) (lnsW ns z x y ws[k]) j).length ≤ 2000) : lnsU ns ws z x y (k + 1) = lnM (lnsU ns ws z x y k) (lnsW ns z x y ws[k]) j := by
 unfold lnsU lnM at *
 rw [List.take_of_length_le hj] at h ⊢
 rw [lnsT_succ hk]
 exact take_room h
theorem lnsU_len (ns : List NodeD) (ws : List WayD) (z x y : Int) (k : Nat) : (lnsU ns ws z x y k).length ≤ 2000 := by unfold lnsU; rw [List.length_take]; omega
end Go.Proofs.YtldfcnlhjjiihaaGreat

namespace Go.Proofs.YtldfcnlhjjiihaaGreat
open Go.RowKit Go.Maps

theorem stpE_out {i : Nat} {e ax ay bx b_y : Int} {s t : StD} (h : stpE i e ax ay bx b_y s = some t) : ¬ (outB i e s.px s.py = true ∧ outB i e s.qx s.qy = true) := by
 unfold stpE at h
 split at h
 ·cases h
 ·rename_i hn
  intro hh
  exact hn (by rw [hh.1, hh.2]; rfl)
/-- Neither end's span lies wholly beyond an edge. -/
theorem stpT_in {q : BoxD} {ax ay bx b_y : Int} {s : StD} (h : stpT q ax ay bx b_y 4 = some s) : q.a ≤ max ax bx ∧ min ax bx ≤ q.c ∧ q.b ≤ max ay b_y ∧ min ay b_y ≤ q.d := by
 have step : ∀ i u, stpT q ax ay bx b_y (i + 1) = some u → ∃ s0, stpT q ax ay bx b_y i = some s0 ∧ stpE i (edgB q i) ax ay bx b_y s0 = some u := fun i u hu => by
  simp only [stpT] at hu
  exact Option.bind_eq_some_iff.1 hu
 obtain ⟨s3, h3, e3⟩ := step 3 s h
 obtain ⟨s2, h2, e2⟩ := step 2 s3 h3
 obtain ⟨s1, h1, e1⟩ := step 1 s2 h2
 obtain ⟨s0, h0, e0⟩ := step 0 s1 h1
 have b0 := stpT_btw _ _ h0
 have b1 := stpT_btw _ _ h1
 have b2 := stpT_btw _ _ h2
 have b3 := stpT_btw _ _ h3
 have o0 := stpE_out e0
 have o1 := stpE_out e1
 have o2 := stpE_out e2
 have o3 := stpE_out e3
 simp only [outB, edgB, decide_eq_true_eq] at o0 o1 o2 o3
 obtain ⟨x0, _, x1, _⟩ := b0
 obtain ⟨y0, _, y1, _⟩ := b1
 obtain ⟨_, z0, _, z1⟩ := b2
 obtain ⟨_, v0, _, v1⟩ := b3
 refine ⟨?_, ?_, ?_, ?_⟩ <;> omega
theorem strC_mid {q : BoxD} {ax ay bx b_y : Int} {t : StD} (h : strC q ax ay bx b_y = some t) : Btw ax ay bx b_y t := by
 unfold strC at h
 obtain ⟨s, hs, h⟩ := Option.bind_eq_some_iff.1 h
 have hb := stpT_btw _ _ hs
 obtain ⟨i0, i1, i2, i3⟩ := stpT_in hs
 simp only at h
 split at h
 ·cases h
 ·injection h with h
  subst h
  obtain ⟨x0, y0, x1, y1⟩ := hb
  refine ⟨?_, ?_, ?_, ?_⟩ <;> (simp only [clm]; omega)
theorem pok_btw {ax ay bx b_y x y : Int} (ha : POk ax ay) (hb : POk bx b_y) (hx : min ax bx ≤ x ∧ x ≤ max ax bx) (hy : min ay b_y ≤ y ∧ y ≤ max ay b_y) : POk x y := by
 obtain ⟨a1, a2, a3, a4⟩ := ha
 obtain ⟨b1, b2, b3, b4⟩ := hb
 exact ⟨by omega, by omega, by omega, by omega⟩
/-- A piece of no more than k stretches, each point of which can be. -/
def PcK (k : Nat) (c : List PtD) : Prop := c.length ≤ k + 1 ∧ ∀ d ∈ c, POk d.x d.y
theorem addC_pk {L : List (List PtD)} {op : Bool} {f t : PtD} {k : Nat} (h : ∀ c ∈ L, PcK k c) (hf : POk f.x f.y) (ht : POk t.x t.y) : ∀ c ∈ addC L op f t, PcK (k + 1) c := by
 intro c hc
 unfold addC at hc
 split at hc
 ·rcases snocL L with e | ⟨D, z, e⟩
  ·subst e; simp at hc; subst hc; rename_i h1; simp [lastB] at h1
  ·subst e
   simp at hc
   rcases hc with hc | hc
   ·obtain ⟨h1, h2⟩ := h c (by simp [hc])
    exact ⟨Nat.le_succ_of_le h1, h2⟩
   ·subst hc
    obtain ⟨h1, h2⟩ := h z (by simp)
    refine ⟨by simp; omega, fun d hd => ?_⟩
    rcases List.mem_append.1 hd with hd | hd
    ·exact h2 d hd
    ·rw [List.mem_singleton.1 hd]; exact ht
 ·rcases List.mem_append.1 hc with hc | hc
  ·obtain ⟨h1, h2⟩ := h c hc
   exact ⟨Nat.le_succ_of_le h1, h2⟩
  ·rw [List.mem_singleton.1 hc]
   refine ⟨by simp, fun d hd => ?_⟩
   simp at hd
   rcases hd with rfl | rfl
   ·exact hf
   ·exact ht
theorem clpQ_pk {q : BoxD} {X Y : Nat → Int} : ∀ k, (∀ i, i ≤ k → POk (X i) (Y i)) → ∀ c ∈ (clpQ q X Y k).1, PcK k c
 | 0, _ => fun _ h => nomatch h
 | k + 1, hP => by
  have ih := clpQ_pk (q := q) (X := X) (Y := Y) k (fun i hi => hP i (by omega))
  unfold clpQ
  cases e : strC q (X k) (Y k) (X (k + 1)) (Y (k + 1)) with
  | none => exact fun c hc => ⟨Nat.le_succ_of_le (ih c hc).1, (ih c hc).2⟩
  | some t =>
   obtain ⟨x0, y0, x1, y1⟩ := strC_mid e
   have p0 := hP k (by omega)
   have p1 := hP (k + 1) (Nat.le_refl _)
   exact addC_pk ih (pok_btw p0 p1 x0 y0) (pok_btw p0 p1 x1 y1)
/-- The pieces of a row that can be are rows that can be. -/
theorem clip_pieces {q : BoxD} {n : Nat} {X Y : Nat → Int} (h : rowB n X Y = true) : ∀ c ∈ clipQ q n X Y, rowB c.length (lx c) (ly c) = true := by
 intro c hc
 obtain ⟨hn, hP⟩ := rowB_out h
 unfold clipQ at hc
 split at hc
 ·cases n with
  | zero => exact nomatch hc
  | succ n =>
   obtain ⟨h1, h2⟩ := clpQ_pk n (fun i hi => hP i (by omega)) c hc
   refine rowB_true (by omega) (fun i hi => ?_)
   have e : c.getD i ⟨0, 0⟩ = c[i] := by simp [List.getD, hi]
   unfold lx ly
   rw [e]
   exact pOk_iff.2 (h2 _ (List.getElem_mem hi))
 ·exact nomatch hc
theorem quant_same {z x y : Int} {c : List PtD} (h : rowB c.length (lx c) (ly c) = true) (ht : tilB z x y = true) : qzQ z x y c.length (lx c) (ly c) = if inB (tbx z x y) c.length (lx c) (ly c) = true then cpL (qzX z x y (lx c)) (qzY z x y (ly c)) c.length else [] := by
 by_cases hi : inB (tbx z x y) c.length (lx c) (ly c) = true
 ·rw [if_pos hi]; exact qzQ_yes h ht hi
 ·rw [if_neg hi]; exact qzQ_in (by simpa using hi)
end Go.Proofs.YtldfcnlhjjiihaaGreat
