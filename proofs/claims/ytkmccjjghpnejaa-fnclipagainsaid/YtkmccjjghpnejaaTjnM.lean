/-
  Tiles that join: what a stretch has in a box and in the next one to the east ends at the same point of the edge between them; a stretch within the box is left as it is: mathematics.
-/
import Derived.Test.YtkmccjjghpnejaaClpN
namespace Go.Proofs.Ytkmccjjghpnejaa
open Go.RowKit Go.Maps

theorem clm_in {x lo hi : Int} (h : lo ≤ x ∧ x ≤ hi) : clm x lo hi = x := by unfold clm; omega
theorem stp_keep {i : Nat} {e ax ay bx b_y : Int} {s : StD} (hp : outB i e s.px s.py = false) (hq : outB i e s.qx s.qy = false) : stpE i e ax ay bx b_y s = some s := by simp [stpE, hp, hq]
/-- A stretch within the box. -/
theorem strC_in {q : BoxD} {ax ay bx b_y : Int} (a0 : q.a ≤ ax ∧ ax ≤ q.c) (a1 : q.b ≤ ay ∧ ay ≤ q.d) (b0 : q.a ≤ bx ∧ bx ≤ q.c) (b1 : q.b ≤ b_y ∧ b_y ≤ q.d) : strC q ax ay bx b_y = some ⟨ax, ay, bx, b_y⟩ := by
 have h1 : stpT q ax ay bx b_y 1 = some ⟨ax, ay, bx, b_y⟩ := by
  show (some (⟨ax, ay, bx, b_y⟩ : StD)).bind _ = _
  exact stp_keep (by simp [outB, edgB]; omega) (by simp [outB, edgB]; omega)
 have h2 : stpT q ax ay bx b_y 2 = some ⟨ax, ay, bx, b_y⟩ := by
  show (stpT q ax ay bx b_y 1).bind _ = _
  rw [h1]; exact stp_keep (by simp [outB, edgB]; omega) (by simp [outB, edgB]; omega)
 have h3 : stpT q ax ay bx b_y 3 = some ⟨ax, ay, bx, b_y⟩ := by
  show (stpT q ax ay bx b_y 2).bind _ = _
  rw [h2]; exact stp_keep (by simp [outB, edgB]; omega) (by simp [outB, edgB]; omega)
 have h4 : stpT q ax ay bx b_y 4 = some ⟨ax, ay, bx, b_y⟩ := by
  show (stpT q ax ay bx b_y 3).bind _ = _
  rw [h3]; exact stp_keep (by simp [outB, edgB]; omega) (by simp [outB, edgB]; omega)
 unfold strC
 rw [h4]
 simp only [Option.bind_some, clm_in a0, clm_in a1, clm_in b0, clm_in b1]
 rw [if_neg]
 rintro ⟨⟨e1, e2⟩, h⟩
 exact h ⟨e1, e2⟩
/-- A row within the box is one piece: the row. -/
theorem clpQ_in {q : BoxD} {X Y : Nat → Int} {n : Nat} (h : ∀ i, i < n → (q.a ≤ X i ∧ X i ≤ q.c) ∧ (q.b ≤ Y i ∧ Y i ≤ q.d)) : ∀ k, k + 1 < n → clpQ q X Y (k + 1) = ([(List.range (k + 2)).map fun i => ⟨X i, Y i⟩], true)
 | 0, hk => by
  have h0 := h 0 (by omega)
  have h1 := h 1 (by omega)
  show (match strC q (X 0) (Y 0) (X 1) (Y 1) with | none => _ | some t => _) = _
  rw [strC_in h0.1 h0.2 h1.1 h1.2]
  rfl
 | k + 1, hk => by
  have h0 := h (k + 1) (by omega)
  have h1 := h (k + 2) (by omega)
  have ih := clpQ_in h k (by omega)
  show (match strC q (X (k + 1)) (Y (k + 1)) (X (k + 1 + 1)) (Y (k + 1 + 1)) with | none => _ | some t => _) = _
  rw [strC_in h0.1 h0.2 h1.1 h1.2, ih]
  have hl : lastB [(List.range (k + 2)).map fun i => (⟨X i, Y i⟩ : PtD)] ⟨X (k + 1), Y (k + 1)⟩ = true := by
   simp [lastB, List.range_succ]
  simp only [addC, hl, Bool.and_self, if_true, List.dropLast_singleton, List.getLast?_singleton, Option.getD_some, List.nil_append]
  rw [List.range_succ (n := k + 2), List.map_append]
  rfl

/-- The crossing is the lower the farther one goes down, and the higher the farther one goes up. -/
theorem mtX_mono {ax ay bx b_y e f : Int} (h : ax < bx) (hef : e ≤ f) : (ay ≤ b_y → mtX ax ay bx b_y e ≤ mtX ax ay bx b_y f) ∧ (b_y ≤ ay → mtX ax ay bx b_y f ≤ mtX ax ay bx b_y e) := by
 have e1 : ∀ e, mtX ax ay bx b_y e = ay + (e - ax) * (b_y - ay) / (bx - ax) := fun e => by unfold mtX; rw [if_neg (by omega)]
 rw [e1, e1]
 have hd : 0 < bx - ax := by omega
 constructor
 ·intro hy
  have := Int.ediv_le_ediv hd (Int.mul_le_mul_of_nonneg_right (show e - ax ≤ f - ax by omega) (show 0 ≤ b_y - ay by omega))
  omega
 ·intro hy
  have := Int.ediv_le_ediv hd (Int.mul_le_mul_of_nonpos_right (show e - ax ≤ f - ax by omega) (show b_y - ay ≤ 0 by omega))
  omega
theorem mtX_swap {ax ay bx b_y e : Int} (h : ax ≠ bx) : mtX ax ay bx b_y e = mtX bx b_y ax ay e := by
 unfold mtX
 by_cases h1 : bx < ax
 ·rw [if_pos h1, if_neg (by omega)]
 ·rw [if_neg h1, if_pos (by omega)]
theorem mtX_at {ax ay bx b_y : Int} (h : ax < bx) : mtX ax ay bx b_y ax = ay ∧ mtX ax ay bx b_y bx = b_y := by
 have e1 : ∀ e, mtX ax ay bx b_y e = ay + (e - ax) * (b_y - ay) / (bx - ax) := fun e => by unfold mtX; rw [if_neg (by omega)]
 rw [e1, e1]
 constructor
 ·simp
 ·rw [Int.mul_comm, Int.mul_ediv_cancel _ (by omega)]; omega
/-- Behind the two edges of X. -/
theorem xph {q : BoxD} {ax ay bx b_y : Int} (h : ax < bx) (hq : q.a ≤ q.c) {s : StD} (hs : stpT q ax ay bx b_y 2 = some s) :
  ax ≤ q.c ∧ q.a ≤ bx ∧ s = ⟨max ax q.a, mtX ax ay bx b_y (max ax q.a), min bx q.c, mtX ax ay bx b_y (min bx q.c)⟩ := by
 obtain ⟨m0, m1⟩ := mtX_at (ay := ay) (b_y := b_y) h
 by_cases c1 : ax < q.a
 ·by_cases c2 : bx < q.a
  ·simp [stpT, stpE, outB, edgB, c1, c2] at hs
  ·have e0 : max ax q.a = q.a := by omega
   by_cases c3 : q.c < bx
   ·have e1 : min bx q.c = q.c := by omega
    have c4 : ¬ q.c < q.a := by omega
    simp [stpT, stpE, outB, edgB, crsX, crsY, c1, c2, c3, c4] at hs
    rw [e0, e1]
    exact ⟨by omega, by omega, hs.symm⟩
   ·have e1 : min bx q.c = bx := by omega
    have c4 : ¬ q.c < q.a := by omega
    simp [stpT, stpE, outB, edgB, crsX, crsY, c1, c2, c3, c4] at hs
    rw [e0, e1, m1]
    exact ⟨by omega, by omega, hs.symm⟩
 ·have c2 : ¬ bx < q.a := by omega
  have e0 : max ax q.a = ax := by omega
  by_cases c3 : q.c < bx
  ·by_cases c4 : q.c < ax
   ·simp [stpT, stpE, outB, edgB, c1, c2, c3, c4] at hs
   ·have e1 : min bx q.c = q.c := by omega
    simp [stpT, stpE, outB, edgB, crsX, crsY, c1, c2, c3, c4] at hs
    rw [e0, e1, m0]
    exact ⟨by omega, by omega, hs.symm⟩
  ·have c4 : ¬ q.c < ax := by omega
   have e1 : min bx q.c = bx := by omega
   simp [stpT, stpE, outB, edgB, c1, c2, c3, c4] at hs
   rw [e0, e1, m0, m1]
   exact ⟨by omega, by omega, hs.symm⟩
theorem xphR {q : BoxD} {ax ay bx b_y : Int} (h : bx < ax) (hq : q.a ≤ q.c) {s : StD} (hs : stpT q ax ay bx b_y 2 = some s) :
  bx ≤ q.c ∧ q.a ≤ ax ∧ s = ⟨min ax q.c, mtX bx b_y ax ay (min ax q.c), max bx q.a, mtX bx b_y ax ay (max bx q.a)⟩ := by
 obtain ⟨m0, m1⟩ := mtX_at (ay := b_y) (b_y := ay) h
 have sw : ∀ e, mtX ax ay bx b_y e = mtX bx b_y ax ay e := fun e => mtX_swap (by omega)
 by_cases c1 : bx < q.a
 ·by_cases c2 : ax < q.a
  ·simp [stpT, stpE, outB, edgB, c1, c2] at hs
  ·have e0 : max bx q.a = q.a := by omega
   by_cases c3 : q.c < ax
   ·have e1 : min ax q.c = q.c := by omega
    have c4 : ¬ q.c < q.a := by omega
    simp [stpT, stpE, outB, edgB, crsX, crsY, c1, c2, c3, c4, sw] at hs
    rw [e0, e1]
    exact ⟨by omega, by omega, hs.symm⟩
   ·have e1 : min ax q.c = ax := by omega
    have c4 : ¬ q.c < q.a := by omega
    simp [stpT, stpE, outB, edgB, crsX, crsY, c1, c2, c3, c4, sw] at hs
    rw [e0, e1, m1]
    exact ⟨by omega, by omega, hs.symm⟩
 ·have c2 : ¬ ax < q.a := by omega
  have e0 : max bx q.a = bx := by omega
  by_cases c3 : q.c < ax
  ·by_cases c4 : q.c < bx
   ·simp [stpT, stpE, outB, edgB, c1, c2, c3, c4] at hs
   ·have e1 : min ax q.c = q.c := by omega
    simp [stpT, stpE, outB, edgB, crsX, crsY, c1, c2, c3, c4, sw] at hs
    rw [e0, e1, m0]
    exact ⟨by omega, by omega, hs.symm⟩
  ·have c4 : ¬ q.c < bx := by omega
   have e1 : min ax q.c = ax := by omega
   simp [stpT, stpE, outB, edgB, c1, c2, c3, c4] at hs
   rw [e0, e1, m0, m1]
   exact ⟨by omega, by omega, hs.symm⟩
theorem strC_two {q : BoxD} {ax ay bx b_y : Int} {t : StD} (h : strC q ax ay bx b_y = some t) : ∃ s, stpT q ax ay bx b_y 2 = some s := by
 cases e : stpT q ax ay bx b_y 2 with
 | some s => exact ⟨s, rfl⟩
 | none =>
  unfold strC at h
  have e3 : stpT q ax ay bx b_y 4 = none := by
   have e4 : stpT q ax ay bx b_y 4 = ((stpT q ax ay bx b_y 2).bind (stpE 2 q.b ax ay bx b_y)).bind (stpE 3 q.d ax ay bx b_y) := rfl
   rw [e4, e]; rfl
  rw [e3] at h
  cases h
/-- Where one lies below the box, or both above it, nothing is left. -/
theorem yph_none {q : BoxD} {ax ay bx b_y : Int} {s : StD} (hq : q.b ≤ q.d) (h2 : stpT q ax ay bx b_y 2 = some s) (h : (s.py < q.b ∧ s.qy < q.b) ∨ (q.d < s.py ∧ q.d < s.qy)) : strC q ax ay bx b_y = none := by
 have e3 : stpT q ax ay bx b_y 4 = none := by
  show ((stpT q ax ay bx b_y 2).bind _).bind _ = none
  rw [h2]
  rcases h with ⟨h1, h3⟩ | ⟨h1, h3⟩
  ·simp [stpE, outB, edgB, h1, h3]
  ·have c1 : ¬ s.py < q.b := by omega
   have c2 : ¬ s.qy < q.b := by omega
   simp [stpE, outB, edgB, h1, h3, c1, c2]
 unfold strC
 rw [e3]; rfl
/-- An end within the box's Y stays. -/
theorem yph_q {q : BoxD} {ax ay bx b_y : Int} {s t : StD} (h2 : stpT q ax ay bx b_y 2 = some s) (h : q.b ≤ s.qy ∧ s.qy ≤ q.d) (ht : strC q ax ay bx b_y = some t) : t.qx = clm s.qx q.a q.c ∧ t.qy = s.qy := by
 have c1 : ¬ s.qy < q.b := by omega
 have c2 : ¬ q.d < s.qy := by omega
 have e4 : ∃ u : StD, stpT q ax ay bx b_y 4 = some u ∧ u.qx = s.qx ∧ u.qy = s.qy := by
  have e : stpT q ax ay bx b_y 4 = ((stpT q ax ay bx b_y 2).bind (stpE 2 q.b ax ay bx b_y)).bind (stpE 3 q.d ax ay bx b_y) := rfl
  rw [e, h2]
  have e2 : (Option.some s).bind (stpE 2 q.b ax ay bx b_y) = stpE 2 q.b ax ay bx b_y s := rfl
  rw [e2]
  simp only [stpE, outB, c1, c2, decide_false, Bool.and_false, Bool.false_eq_true, if_false, Option.bind_some]
  exact ⟨_, rfl, rfl, rfl⟩
 obtain ⟨u, e4, e5, e6⟩ := e4
 unfold strC at ht
 rw [e4] at ht
 simp only [Option.bind_some] at ht
 split at ht
 ·cases ht
 ·injection ht with ht
  subst ht
  exact ⟨by rw [e5], by simp only [e6]; exact clm_in h⟩
theorem yph_p {q : BoxD} {ax ay bx b_y : Int} {s t : StD} (h2 : stpT q ax ay bx b_y 2 = some s) (h : q.b ≤ s.py ∧ s.py ≤ q.d) (ht : strC q ax ay bx b_y = some t) : t.px = clm s.px q.a q.c ∧ t.py = s.py := by
 have c1 : ¬ s.py < q.b := by omega
 have c2 : ¬ q.d < s.py := by omega
 have e4 : ∃ u : StD, stpT q ax ay bx b_y 4 = some u ∧ u.px = s.px ∧ u.py = s.py := by
  have e : stpT q ax ay bx b_y 4 = ((stpT q ax ay bx b_y 2).bind (stpE 2 q.b ax ay bx b_y)).bind (stpE 3 q.d ax ay bx b_y) := rfl
  rw [e, h2]
  have e2 : (Option.some s).bind (stpE 2 q.b ax ay bx b_y) = stpE 2 q.b ax ay bx b_y s := rfl
  rw [e2]
  simp only [stpE, outB, c1, c2, decide_false, Bool.false_and, Bool.false_eq_true, if_false, Option.bind_some]
  exact ⟨_, rfl, rfl, rfl⟩
 obtain ⟨u, e4, e5, e6⟩ := e4
 unfold strC at ht
 rw [e4] at ht
 simp only [Option.bind_some] at ht
 split at ht
 ·cases ht
 ·injection ht with ht
  subst ht
  exact ⟨by rw [e5], by simp only [e6]; exact clm_in h⟩
/-- Both ends the same: it does not count. -/
theorem str_same {q : BoxD} {ax ay bx b_y : Int} {s : StD} (h2 : stpT q ax ay bx b_y 2 = some s) (h : s.px = s.qx ∧ s.py = s.qy) (hne : ax ≠ bx) : strC q ax ay bx b_y = none := by
 have e4 : stpT q ax ay bx b_y 4 = none ∨ ∃ u : StD, stpT q ax ay bx b_y 4 = some u ∧ u.px = u.qx ∧ u.py = u.qy := by
  have e : stpT q ax ay bx b_y 4 = ((stpT q ax ay bx b_y 2).bind (stpE 2 q.b ax ay bx b_y)).bind (stpE 3 q.d ax ay bx b_y) := rfl
  have hk : ∀ (i : Nat) (e : Int) (s : StD), s.px = s.qx ∧ s.py = s.qy → stpE i e ax ay bx b_y s = none ∨ ∃ u : StD, stpE i e ax ay bx b_y s = some u ∧ u.px = u.qx ∧ u.py = u.qy := fun i e s h => by
   unfold stpE
   rw [h.1, h.2]
   cases outB i e s.qx s.qy
   ·exact .inr ⟨_, rfl, rfl, rfl⟩
   ·exact .inl rfl
  rw [e, h2]
  have e2 : (Option.some s).bind (stpE 2 q.b ax ay bx b_y) = stpE 2 q.b ax ay bx b_y s := rfl
  rw [e2]
  rcases hk 2 q.b s h with e3 | ⟨u, e3, hu⟩
  ·rw [e3]; exact .inl rfl
  ·rw [e3]; exact hk 3 q.d u hu
 unfold strC
 rcases e4 with e4 | ⟨u, e4, h1, h3⟩
 ·rw [e4]; rfl
 ·rw [e4]
  simp only [Option.bind_some, h1, h3]
  rw [if_pos ⟨⟨trivial, trivial⟩, fun h => hne h.1⟩]
/-- The box to the east. -/
def estB (q : BoxD) (M : Int) : BoxD := ⟨q.c, q.b, M, q.d⟩
/-- The points of a stretch's part that lie at an X. -/
def atX (e : Int) (t : StD) : List PtD := [(⟨t.px, t.py⟩ : PtD), ⟨t.qx, t.qy⟩].filter fun d => decide (d.x = e)
theorem atX_p {e : Int} {t : StD} (h : t.px = e) (h1 : (atX e t).length = 1) : atX e t = [⟨t.px, t.py⟩] := by
 unfold atX at *
 by_cases c : t.qx = e
 ·simp [h, c] at h1
 ·simp [h, c]
theorem atX_q {e : Int} {t : StD} (h : t.qx = e) (h1 : (atX e t).length = 1) : atX e t = [⟨t.qx, t.qy⟩] := by
 unfold atX at *
 by_cases c : t.px = e
 ·simp [h, c] at h1
 ·simp [h, c]
/-- THE JOIN. -/
theorem join_any {q : BoxD} {M ax ay bx b_y : Int} (hx : q.a ≤ q.c) (hy : q.b ≤ q.d) (hM : q.c ≤ M) (ha : ax ≤ M) (hb : bx ≤ M) (hne : ax ≠ bx) {t u : StD} (ht : strC q ax ay bx b_y = some t) (hu : strC (estB q M) ax ay bx b_y = some u)
  (h1 : (atX q.c t).length = 1) (h2 : (atX q.c u).length = 1) : atX q.c t = atX q.c u := by
 obtain ⟨s, es⟩ := strC_two ht
 obtain ⟨r, er⟩ := strC_two hu
 rcases Int.lt_or_gt_of_ne hne with h | h
 ·obtain ⟨a1, a2, a3⟩ := xph h hx es
  obtain ⟨b1, b2, b3⟩ := xph (q := estB q M) h hM er
  simp only [estB] at b1 b2 b3
  have m1 : min bx M = bx := by omega
  rw [m1, (mtX_at (ay := ay) (b_y := b_y) h).2] at b3
  by_cases c1 : ax < q.c
  ·by_cases c2 : q.c < bx
   ·have e1 : max ax q.c = q.c := by omega
    have e2 : min bx q.c = q.c := by omega
    rw [e1] at b3
    rw [e2] at a3
    obtain ⟨y, Hy⟩ : ∃ y, mtX ax ay bx b_y q.c = y := ⟨_, rfl⟩
    have mo := mtX_mono (ay := ay) (b_y := b_y) h (show max ax q.a ≤ q.c by omega)
    have mo2 := mtX_mono (ay := ay) (b_y := b_y) h (show q.c ≤ bx by omega)
    rw [(mtX_at (ay := ay) (b_y := b_y) h).2] at mo2
    rw [Hy] at a3 b3 mo mo2
    by_cases k1 : q.b ≤ y ∧ y ≤ q.d
    ·obtain ⟨z1, z2⟩ := yph_q es (by rw [a3]; exact k1) ht
     obtain ⟨z3, z4⟩ := yph_p er (by rw [b3]; exact k1) hu
     rw [a3] at z1 z2
     rw [b3] at z3 z4
     have w1 : t.qx = q.c := by rw [z1]; exact clm_in ⟨hx, Int.le_refl _⟩
     have w2 : u.px = q.c := by rw [z3]; exact clm_in ⟨Int.le_refl _, hM⟩
     rw [atX_q w1 h1, atX_p w2 h2, w1, w2, z2, z4]
    ·exfalso
     rcases Int.le_total ay b_y with hs | hs
     ·have := mo.1 hs
      have := mo2.1 hs
      by_cases k2 : y < q.b
      ·have := yph_none hy es (.inl (by rw [a3]; exact ⟨by show mtX _ _ _ _ _ < _; omega, k2⟩))
       rw [ht] at this; cases this
      ·have := yph_none (q := estB q M) hy er (.inr (by rw [b3]; exact ⟨by show q.d < y; omega, by show q.d < b_y; omega⟩))
       rw [hu] at this; cases this
     ·have := mo.2 hs
      have := mo2.2 hs
      by_cases k2 : y < q.b
      ·have := yph_none (q := estB q M) hy er (.inl (by rw [b3]; exact ⟨by show y < q.b; omega, by show b_y < q.b; omega⟩))
       rw [hu] at this; cases this
      ·have := yph_none hy es (.inr (by rw [a3]; exact ⟨by show _ < mtX _ _ _ _ _; omega, by show q.d < y; omega⟩))
       rw [ht] at this; cases this
   ·exfalso
    have e1 : bx = q.c := by omega
    have := str_same (q := estB q M) er (by rw [b3, show max ax q.c = bx by omega, (mtX_at (ay := ay) (b_y := b_y) h).2]; exact ⟨rfl, rfl⟩) hne
    rw [hu] at this; cases this
  ·exfalso
   have e1 : ax = q.c := by omega
   have := str_same es (by rw [a3, show max ax q.a = ax by omega, show min bx q.c = ax by omega]; exact ⟨rfl, rfl⟩) hne
   rw [ht] at this; cases this
 ·obtain ⟨a1, a2, a3⟩ := xphR h hx es
  obtain ⟨b1, b2, b3⟩ := xphR (q := estB q M) h hM er
  simp only [estB] at b1 b2 b3
  have m1 : min ax M = ax := by omega
  rw [m1, (mtX_at (ay := b_y) (b_y := ay) h).2] at b3
  by_cases c1 : bx < q.c
  ·by_cases c2 : q.c < ax
   ·have e1 : max bx q.c = q.c := by omega
    have e2 : min ax q.c = q.c := by omega
    rw [e1] at b3
    rw [e2] at a3
    obtain ⟨y, Hy⟩ : ∃ y, mtX bx b_y ax ay q.c = y := ⟨_, rfl⟩
    have mo := mtX_mono (ay := b_y) (b_y := ay) h (show max bx q.a ≤ q.c by omega)
    have mo2 := mtX_mono (ay := b_y) (b_y := ay) h (show q.c ≤ ax by omega)
    rw [(mtX_at (ay := b_y) (b_y := ay) h).2] at mo2
    rw [Hy] at a3 b3 mo mo2
    by_cases k1 : q.b ≤ y ∧ y ≤ q.d
    ·obtain ⟨z1, z2⟩ := yph_p es (by rw [a3]; exact k1) ht
     obtain ⟨z3, z4⟩ := yph_q er (by rw [b3]; exact k1) hu
     rw [a3] at z1 z2
     rw [b3] at z3 z4
     have w1 : t.px = q.c := by rw [z1]; exact clm_in ⟨hx, Int.le_refl _⟩
     have w2 : u.qx = q.c := by rw [z3]; exact clm_in ⟨Int.le_refl _, hM⟩
     rw [atX_p w1 h1, atX_q w2 h2, w1, w2, z2, z4]
    ·exfalso
     rcases Int.le_total b_y ay with hs | hs
     ·have := mo.1 hs
      have := mo2.1 hs
      by_cases k2 : y < q.b
      ·have := yph_none hy es (.inl (by rw [a3]; exact ⟨k2, by show mtX _ _ _ _ _ < _; omega⟩))
       rw [ht] at this; cases this
      ·have := yph_none (q := estB q M) hy er (.inr (by rw [b3]; exact ⟨by show q.d < ay; omega, by show q.d < y; omega⟩))
       rw [hu] at this; cases this
     ·have := mo.2 hs
      have := mo2.2 hs
      by_cases k2 : y < q.b
      ·have := yph_none (q := estB q M) hy er (.inl (by rw [b3]; exact ⟨by show ay < q.b; omega, by show y < q.b; omega⟩))
       rw [hu] at this; cases this
      ·have := yph_none hy es (.inr (by rw [a3]; exact ⟨by show q.d < y; omega, by show _ < mtX _ _ _ _ _; omega⟩))
       rw [ht] at this; cases this
   ·exfalso
    have e1 : ax = q.c := by omega
    have := str_same (q := estB q M) er (by rw [b3, show max bx q.c = ax by omega, (mtX_at (ay := b_y) (b_y := ay) h).2]; exact ⟨rfl, rfl⟩) hne
    rw [hu] at this; cases this
  ·exfalso
   have e1 : bx = q.c := by omega
   have := str_same es (by rw [a3, show max bx q.a = bx by omega, show min ax q.c = bx by omega]; exact ⟨rfl, rfl⟩) hne
   rw [ht] at this; cases this
end Go.Proofs.Ytkmccjjghpnejaa
