/-
  Tiles join: one stretch's pieces, the whole plane: mathematics.
-/
import Derived.Test.YtkmccjjghpnejaaTjnB
import Derived.Test.YtkmccjjghpnejaaTjnM
import Derived.Test.YtkmccjjghpnejaaPieN
namespace Go.Proofs.Ytkmccjjghpnejaa
open Go.RowKit Go.Maps

/-- What of one stretch lies in a box, as pieces. -/
def onePc (o : Option StD) : List (List PtD) := match o with
 | none => []
 | some t => [[⟨t.px, t.py⟩, ⟨t.qx, t.qy⟩]]
theorem clipQ_two {q : BoxD} {X Y : Nat → Int} (h0 : POk (X 0) (Y 0)) (h1 : POk (X 1) (Y 1)) (ho : ordB q = true) : clipQ q 2 X Y = onePc (strC q (X 0) (Y 0) (X 1) (Y 1)) := by
 have hr : rowB 2 X Y = true := rowB_true (by omega) fun i hi => by
  rcases (show i = 0 ∨ i = 1 by omega) with rfl | rfl
  ·exact pOk_iff.2 h0
  ·exact pOk_iff.2 h1
 unfold clipQ
 rw [hr, ho]
 show (clpQ q X Y 1).1 = _
 show (match strC q (X 0) (Y 0) (X 1) (Y 1) with | none => _ | some t => _ : List (List PtD) × Bool).1 = _
 cases strC q (X 0) (Y 0) (X 1) (Y 1) with
 | none => rfl
 | some t => rfl
theorem strC_ptB {q : BoxD} {ax ay bx b_y : Int} {t : StD} (h : strC q ax ay bx b_y = some t) (hx : q.a ≤ q.c) (hy : q.b ≤ q.d) : ptB q t.px t.py = true ∧ ptB q t.qx t.qy = true := by
 unfold strC at h
 obtain ⟨s, _, h⟩ := Option.bind_eq_some_iff.1 h
 simp only at h
 split at h
 ·cases h
 ·injection h with h
  subst h
  have a1 := clm_bd (x := s.px) hx
  have a2 := clm_bd (x := s.py) hy
  have a3 := clm_bd (x := s.qx) hx
  have a4 := clm_bd (x := s.qy) hy
  simp only [ptB, Bool.and_eq_true, decide_eq_true_eq]
  exact ⟨⟨a1.1, a1.2, a2.1, a2.2⟩, ⟨a3.1, a3.2, a4.1, a4.2⟩⟩
theorem onePc_len (o : Option StD) : (onePc o).length ≤ 1 := by cases o <;> simp [onePc]
theorem onePc_in {q : BoxD} {ax ay bx b_y : Int} (hx : q.a ≤ q.c) (hy : q.b ≤ q.d) : ∀ c ∈ onePc (strC q ax ay bx b_y), c.length = 2 ∧ ∀ d ∈ c, ptB q d.x d.y = true := by
 intro c hc
 cases e : strC q ax ay bx b_y with
 | none => rw [e] at hc; cases hc
 | some t =>
  rw [e] at hc
  obtain ⟨h1, h2⟩ := strC_ptB e hx hy
  simp only [onePc, List.mem_singleton] at hc
  subst hc
  refine ⟨rfl, fun d hd => ?_⟩
  simp only [List.mem_cons, List.not_mem_nil, or_false] at hd
  rcases hd with rfl | rfl
  ·exact h1
  ·exact h2
/-- The join, of pieces. -/
theorem join_pc {q : BoxD} {M ax ay bx b_y : Int} (hx : q.a ≤ q.c) (hy : q.b ≤ q.d) (hM : q.c ≤ M) (ha : ax ≤ M) (hb : bx ≤ M) (hne : ax ≠ bx) {c d : List PtD} (hc : onePc (strC q ax ay bx b_y) = [c]) (hd : onePc (strC (estB q M) ax ay bx b_y) = [d])
  (h1 : (atQ q.c c).length = 1) (h2 : (atQ q.c d).length = 1) : atQ q.c c = atQ q.c d := by
 cases e : strC q ax ay bx b_y with
 | none => rw [e] at hc; cases hc
 | some t =>
  cases e2 : strC (estB q M) ax ay bx b_y with
  | none => rw [e2] at hd; cases hd
  | some u =>
   rw [e] at hc
   rw [e2] at hd
   simp only [onePc, List.cons.injEq, and_true] at hc hd
   subst hc hd
   exact join_any hx hy hM ha hb hne e e2 h1 h2
/-- The whole plane. -/
def allB : BoxD := ⟨-10000000, -10000000, 10000000, 10000000⟩
theorem all_pc {X Y : Nat → Int} {m : Nat} (h : ∀ i, i < m → POk (X i) (Y i)) (hm : m ≤ 2000) : (m < 2 → clipQ allB m X Y = []) ∧ (2 ≤ m → ∃ c, clipQ allB m X Y = [c] ∧ c.length = m) := by
 have hr : rowB m X Y = true := rowB_true hm fun i hi => pOk_iff.2 (h i hi)
 have e : clipQ allB m X Y = (clpQ allB X Y (m - 1)).1 := by unfold clipQ; rw [hr]; rfl
 refine ⟨fun h2 => ?_, fun h2 => ?_⟩
 ·rw [e, show m - 1 = 0 by omega]; rfl
 ·obtain ⟨k, rfl⟩ : ∃ k, m = k + 2 := ⟨m - 2, by omega⟩
  have := clpQ_in (q := allB) (X := X) (Y := Y) (n := k + 2) (fun i hi => by
   obtain ⟨h0, h1, h3, h4⟩ := h i hi
   exact ⟨⟨h0, h1⟩, ⟨h3, h4⟩⟩) k (by omega)
  rw [e, show k + 2 - 1 = k + 1 by omega, this]
  exact ⟨_, rfl, by simp⟩
theorem box_all : Box64 allB := ⟨by show In64 (-10000000); unfold In64; omega, by show In64 (-10000000); unfold In64; omega, by show In64 10000000; unfold In64; omega, by show In64 10000000; unfold In64; omega⟩
theorem box_est {q : BoxD} (h : Box64 q) : Box64 (estB q 10000000) := ⟨h.c, h.b, by show In64 10000000; unfold In64; omega, h.d⟩
end Go.Proofs.Ytkmccjjghpnejaa
