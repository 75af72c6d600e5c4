/-
  What the law of clipping again asks, as mathematics: pieces lie in the box, and have two points at least; clipped again a row in the box stays; no two beside each other are the same.
-/
import Derived.Test.YtkmccjjghpnejaaTjnM
import Derived.Test.YtkmccjjghpnejaaTjnK
import Derived.Test.YtkmccjjghpnejaaQntI
namespace Go.Proofs.Ytkmccjjghpnejaa
open Go.RowKit Go.Maps

/-- A piece in the box. -/
def PcIn (q : BoxD) (c : List PtD) : Prop := 2 ≤ c.length ∧ ∀ d ∈ c, (q.a ≤ d.x ∧ d.x ≤ q.c) ∧ (q.b ≤ d.y ∧ d.y ≤ q.d)
theorem strC_box {q : BoxD} {ax ay bx b_y : Int} {t : StD} (hx : q.a ≤ q.c) (hy : q.b ≤ q.d) (h : strC q ax ay bx b_y = some t) : ((q.a ≤ t.px ∧ t.px ≤ q.c) ∧ (q.b ≤ t.py ∧ t.py ≤ q.d)) ∧ ((q.a ≤ t.qx ∧ t.qx ≤ q.c) ∧ (q.b ≤ t.qy ∧ t.qy ≤ q.d)) := by
 unfold strC at h
 obtain ⟨s, _, h⟩ := Option.bind_eq_some_iff.1 h
 simp only at h
 split at h
 ·cases h
 ·injection h with h
  subst h
  exact ⟨⟨clm_bd hx, clm_bd hy⟩, ⟨clm_bd hx, clm_bd hy⟩⟩
theorem addC_pc {q : BoxD} {L : List (List PtD)} {op : Bool} {f t : PtD} (h : ∀ c ∈ L, PcIn q c) (hf : (q.a ≤ f.x ∧ f.x ≤ q.c) ∧ (q.b ≤ f.y ∧ f.y ≤ q.d)) (ht : (q.a ≤ t.x ∧ t.x ≤ q.c) ∧ (q.b ≤ t.y ∧ t.y ≤ q.d)) : ∀ c ∈ addC L op f t, PcIn q c := by
 intro c hc
 unfold addC at hc
 split at hc
 ·rcases snocL L with e | ⟨D, z, e⟩
  ·subst e; simp at hc; subst hc; rename_i h1; simp [lastB] at h1
  ·subst e
   simp at hc
   rcases hc with hc | hc
   ·exact h c (by simp [hc])
   ·subst hc
    obtain ⟨h1, h2⟩ := h z (by simp)
    refine ⟨by simp; omega, fun d hd => ?_⟩
    rcases List.mem_append.1 hd with hd | hd
    ·exact h2 d hd
    ·rw [List.mem_singleton.1 hd]; exact ht
 ·rcases List.mem_append.1 hc with hc | hc
  ·exact h c hc
  ·rw [List.mem_singleton.1 hc]
   refine ⟨by simp, fun d hd => ?_⟩
   simp at hd
   rcases hd with rfl | rfl
   ·exact hf
   ·exact ht
theorem clpQ_pc {q : BoxD} {X Y : Nat → Int} (hx : q.a ≤ q.c) (hy : q.b ≤ q.d) : ∀ k, ∀ c ∈ (clpQ q X Y k).1, PcIn q c
 | 0 => fun _ h => nomatch h
 | k + 1 => by
  have ih := clpQ_pc (X := X) (Y := Y) hx hy k
  unfold clpQ
  cases e : strC q (X k) (Y k) (X (k + 1)) (Y (k + 1)) with
  | none => exact ih
  | some t =>
   obtain ⟨h1, h2⟩ := strC_box hx hy e
   exact addC_pc ih h1 h2
theorem clipQ_pc {q : BoxD} {n : Nat} {X Y : Nat → Int} : ∀ c ∈ clipQ q n X Y, PcIn q c := by
 unfold clipQ
 split
 ·rename_i h
  simp only [Bool.and_eq_true] at h
  obtain ⟨_, h2⟩ := h
  have ho : q.a ≤ q.c ∧ q.b ≤ q.d := by simpa [ordB] using h2
  exact clpQ_pc ho.1 ho.2 _
 ·intro _ h; cases h
/-- Clipped again. -/
theorem clip_again {q : BoxD} {c : List PtD} {X Y : Nat → Int} (h : PcIn q c) (hX : ∀ i (hi : i < c.length), X i = c[i].x ∧ Y i = c[i].y) (hk : ∀ i, i < c.length → POk (X i) (Y i)) (hl : c.length ≤ 2000) (ho : ordB q = true) : clipQ q c.length X Y = [c] := by
 have hr : rowB c.length X Y = true := rowB_true hl fun i hi => pOk_iff.2 (hk i hi)
 unfold clipQ
 rw [hr, ho]
 obtain ⟨k, e⟩ : ∃ k, c.length = k + 2 := ⟨c.length - 2, by have := h.1; omega⟩
 have h1 := clpQ_in (q := q) (X := X) (Y := Y) (n := c.length) (fun i hi => by
  have := hX i hi
  rw [this.1, this.2]
  exact h.2 c[i] (List.getElem_mem hi)) k (by omega)
 simp only [Bool.and_self, ↓reduceIte]
 rw [show c.length - 1 = k + 1 by omega, h1]
 refine congrArg (fun z => [z]) ?_
 apply List.ext_getElem
 ·simp [e]
 ·intro i hi hi'
  simp only [List.getElem_map, List.getElem_range]
  obtain ⟨h2, h3⟩ := hX i hi'
  rw [h2, h3]
/-- No two beside each other are the same. -/
theorem cpL_off {X Y : Nat → Int} : ∀ k i (h : i + 1 < (cpL X Y k).length), ¬ ((cpL X Y k)[i + 1].x = (cpL X Y k)[i].x ∧ (cpL X Y k)[i + 1].y = (cpL X Y k)[i].y)
 | 0, _, h => nomatch h
 | k + 1, i, h => by
  by_cases hk : Kep X Y k
  ·simp only [cpL_yes hk] at h ⊢
   by_cases hi : i + 1 < (cpL X Y k).length
   ·simp only [List.getElem_append_left hi, List.getElem_append_left (show i < (cpL X Y k).length by omega)]
    exact cpL_off k i hi
   ·have e : i + 1 = (cpL X Y k).length := by simp at h; omega
    obtain ⟨j, rfl⟩ : ∃ j, k = j + 1 := by
     cases k with
     | zero => simp [cpL] at e
     | succ j => exact ⟨j, rfl⟩
    obtain ⟨l, el⟩ := cpL_last X Y j
    have e3 : i = l.length := by rw [el] at e; simp at e; exact e
    have h1 : (cpL X Y (j + 1) ++ [⟨X (j + 1), Y (j + 1)⟩])[i + 1]'h = ⟨X (j + 1), Y (j + 1)⟩ := by
     rw [List.getElem_append_right (by omega)]; simp [e]
    have h2 : (cpL X Y (j + 1) ++ [⟨X (j + 1), Y (j + 1)⟩])[i]'(by omega) = ⟨X j, Y j⟩ := by
     rw [List.getElem_append_left (by omega)]
     simp only [el, e3]
     simp
    rw [h1, h2]
    rcases hk with hk | hk
    ·omega
    ·exact fun hh => hk (by simpa using hh)
  ·simp only [cpL_no hk] at h ⊢
   exact cpL_off k i h
/-- No two beside each other are the same. -/
def OffL (l : List PtD) : Prop := ∀ i (h : i + 1 < l.length), ¬ (l[i + 1].x = l[i].x ∧ l[i + 1].y = l[i].y)
/-- Quantised: no two beside each other the same, one at least. -/
theorem qz_of {z x y : Int} {n : Nat} {X Y : Nat → Int} (h1 : rowB n X Y = true) (h2 : tilB z x y = true) (h3 : inB (tbx z x y) n X Y = true) (hn : 0 < n) :
  OffL (qzQ z x y n X Y) ∧ 0 < (qzQ z x y n X Y).length := by
 rw [qzQ_yes h1 h2 h3]
 refine ⟨fun i h => cpL_off n i h, ?_⟩
 obtain ⟨k, rfl⟩ : ∃ k, n = k + 1 := ⟨n - 1, by omega⟩
 exact cpL_pos _ _ k
end Go.Proofs.Ytkmccjjghpnejaa
