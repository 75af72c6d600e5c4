/-
  Sorting numbers by keys so that the first of the same keys stays first: runs, their merging by halves, and that there is one order only.
-/
import Derived.Test.YtkinpfnelmdmlaaDoorGeo
namespace Go.Proofs.YtkinpfnelmdmlaaDoor
open Go.RowKit

/-- The order of numbers by their keys, of the same keys the first first. -/
def Ro (K : Nat → Int) (i j : Nat) : Prop := K i < K j ∨ (K i = K j ∧ i < j)
theorem Ro.trans {K : Nat → Int} {i j k : Nat} (h : Ro K i j) (g : Ro K j k) : Ro K i k := by
  unfold Ro at *; omega
theorem Ro.irr {K : Nat → Int} {i : Nat} (h : Ro K i i) : False := by
  unfold Ro at h; omega
theorem ro_lt {K : Nat → Int} {i j : Nat} (h : i < j) (g : ¬ K j < K i) : Ro K i j := by
  unfold Ro; omega
theorem ro_gt {K : Nat → Int} {i j : Nat} (g : K j < K i) : Ro K j i := Or.inl g
/-- Ascending between two places. -/
def Inc (K : Nat → Int) (d : Nat → Nat) (a b : Nat) : Prop := ∀ i j, a ≤ i → i < j → j < b → Ro K (d i) (d j)
theorem Inc.sub {K : Nat → Int} {d : Nat → Nat} {a b a' b' : Nat} (h : Inc K d a b) (ha : a ≤ a') (hb : b' ≤ b) : Inc K d a' b' :=
  fun i j h1 h2 h3 => h i j (by omega) h2 (by omega)
theorem Inc.le {K : Nat → Int} {d : Nat → Nat} {a b i j : Nat} (h : Inc K d a b) (h1 : a ≤ i) (h2 : i ≤ j) (h3 : j < b) : i = j ∨ Ro K (d i) (d j) := by
  rcases Nat.lt_or_ge i j with g | g
  · exact Or.inr (h i j h1 g h3)
  · exact Or.inl (by omega)
/-- Nothing is written but between two places, and what stands there stood there. -/
def Frm (d d' : Nat → Nat) (a b : Nat) : Prop := (∀ i, i < a ∨ b ≤ i → d' i = d i) ∧ ∀ i, a ≤ i → i < b → ∃ j, a ≤ j ∧ j < b ∧ d' i = d j
theorem Frm.refl (d : Nat → Nat) (a b : Nat) : Frm d d a b := ⟨fun _ _ => rfl, fun i h1 h2 => ⟨i, h1, h2, rfl⟩⟩
theorem Frm.trans {d e f : Nat → Nat} {a b : Nat} (h : Frm d e a b) (g : Frm e f a b) : Frm d f a b := by
  refine ⟨fun i hi => (g.1 i hi).trans (h.1 i hi), fun i h1 h2 => ?_⟩
  obtain ⟨j, j1, j2, j3⟩ := g.2 i h1 h2
  obtain ⟨k, k1, k2, k3⟩ := h.2 j j1 j2
  exact ⟨k, k1, k2, j3.trans k3⟩
theorem Frm.wide {d e : Nat → Nat} {a b a' b' : Nat} (h : Frm d e a b) (ha : a' ≤ a) (hb : b ≤ b') : Frm d e a' b' := by
  refine ⟨fun i hi => h.1 i (by omega), fun i h1 h2 => ?_⟩
  by_cases hi : a ≤ i ∧ i < b
  · obtain ⟨j, j1, j2, j3⟩ := h.2 i hi.1 hi.2
    exact ⟨j, by omega, by omega, j3⟩
  · exact ⟨i, h1, h2, h.1 i (by omega)⟩
theorem Frm.all {d e : Nat → Nat} {a b : Nat} (h : Frm d e a b) {p : Nat → Prop} (hp : ∀ i, a ≤ i → i < b → p (d i)) : ∀ i, a ≤ i → i < b → p (e i) := by
  intro i h1 h2
  obtain ⟨j, j1, j2, j3⟩ := h.2 i h1 h2
  rw [j3]; exact hp j j1 j2
/-- Two places exchanged. -/
def swp (d : Nat → Nat) (x y : Nat) : Nat → Nat := fun i => if i = x then d y else if i = y then d x else d i
theorem Frm.swp {d : Nat → Nat} {x y a b : Nat} (h1 : a ≤ x) (h2 : x < b) (h3 : a ≤ y) (h4 : y < b) : Frm d (swp d x y) a b := by
  refine ⟨fun i hi => ?_, fun i g1 g2 => ?_⟩
  · unfold Go.Proofs.YtkinpfnelmdmlaaDoor.swp; rw [if_neg (by omega), if_neg (by omega)]
  · unfold Go.Proofs.YtkinpfnelmdmlaaDoor.swp
    by_cases e1 : i = x
    · exact ⟨y, h3, h4, by rw [if_pos e1]⟩
    · by_cases e2 : i = y
      · exact ⟨x, h1, h2, by rw [if_neg e1, if_pos e2]⟩
      · exact ⟨i, g1, g2, by rw [if_neg e1, if_neg e2]⟩
/-- Two runs of n places exchanged. -/
def swr (d : Nat → Nat) (a b n : Nat) : Nat → Nat := fun x => if a ≤ x ∧ x < a + n then d (x - a + b) else if b ≤ x ∧ x < b + n then d (x - b + a) else d x
theorem swr_zero (d : Nat → Nat) (a b : Nat) : swr d a b 0 = d := by
  funext x; unfold swr; rw [if_neg (by omega), if_neg (by omega)]
theorem swr_succ (d : Nat → Nat) (a b n : Nat) (h : a + n < b) : swp (swr d a b n) (a + n) (b + n) = swr d a b (n + 1) := by
  funext x
  unfold swp swr
  by_cases e1 : x = a + n
  · subst e1
    rw [if_pos rfl, if_neg (by omega), if_neg (by omega), if_pos (by omega)]
    congr 1; omega
  · by_cases e2 : x = b + n
    · subst e2
      rw [if_neg e1, if_pos rfl, if_neg (by omega), if_neg (by omega), if_neg (by omega), if_pos (by omega)]
      congr 1; omega
    · rw [if_neg e1, if_neg e2]
      by_cases e3 : a ≤ x ∧ x < a + n
      · rw [if_pos e3, if_pos (by omega)]
      · by_cases e4 : b ≤ x ∧ x < b + n
        · rw [if_neg e3, if_pos e4, if_neg (by omega), if_pos (by omega)]
        · rw [if_neg e3, if_neg e4, if_neg (by omega), if_neg (by omega)]
/-- Two runs beside each other in the other order. -/
def rot (d : Nat → Nat) (a m b : Nat) : Nat → Nat := fun x => if a ≤ x ∧ x < a + (b - m) then d (x - a + m) else if a + (b - m) ≤ x ∧ x < b then d (x - (b - m)) else d x
theorem rot_a (d : Nat → Nat) (m b : Nat) : rot d m m b = d := by
  funext x; unfold rot
  by_cases e1 : m ≤ x ∧ x < m + (b - m)
  · rw [if_pos e1]; congr 1; omega
  · rw [if_neg e1, if_neg (by omega)]
theorem rot_b (d : Nat → Nat) (a m : Nat) : rot d a m m = d := by
  funext x; unfold rot
  rw [if_neg (by omega)]
  by_cases e1 : a + (m - m) ≤ x ∧ x < m
  · rw [if_pos e1]; congr 1; omega
  · rw [if_neg e1]
theorem rot_more (d : Nat → Nat) (m i j : Nat) (hi : i ≤ m) (h : j < i) (hj : 0 < j) : rot (swr d (m - i) m j) (m - (i - j)) m (m + j) = rot d (m - i) m (m + j) := by
  funext x
  unfold rot
  by_cases e1 : m - i ≤ x ∧ x < m - i + (m + j - m)
  · rw [if_pos e1, if_neg (by omega), if_neg (by omega)]
    unfold swr; rw [if_pos (by omega)]
  · rw [if_neg e1]
    by_cases e2 : m - i + (m + j - m) ≤ x ∧ x < m + j
    · rw [if_pos e2]
      by_cases e3 : m - (i - j) ≤ x ∧ x < m - (i - j) + (m + j - m)
      · rw [if_pos e3]; unfold swr; rw [if_neg (by omega), if_pos (by omega)]; congr 1; omega
      · rw [if_neg e3, if_pos (by omega)]; unfold swr; rw [if_neg (by omega), if_neg (by omega)]
    · rw [if_neg e2, if_neg (by omega), if_neg (by omega)]; unfold swr; rw [if_neg (by omega), if_neg (by omega)]
theorem rot_less (d : Nat → Nat) (m i j : Nat) (hi : i ≤ m) (h : i < j) (h0 : 0 < i) : rot (swr d (m - i) (m + j - i) i) (m - i) m (m + (j - i)) = rot d (m - i) m (m + j) := by
  funext x
  unfold rot
  by_cases e1 : m - i ≤ x ∧ x < m - i + (m + j - m)
  · rw [if_pos e1]
    by_cases e3 : m - i ≤ x ∧ x < m - i + (m + (j - i) - m)
    · rw [if_pos e3]; unfold swr; rw [if_neg (by omega)]
      by_cases e4 : m + j - i ≤ x - (m - i) + m ∧ x - (m - i) + m < m + j - i + i
      · exfalso; omega
      · rw [if_neg e4]
    · rw [if_neg e3, if_pos (by omega)]; unfold swr; rw [if_pos (by omega)]; congr 1; omega
  · rw [if_neg e1]
    by_cases e2 : m - i + (m + j - m) ≤ x ∧ x < m + j
    · rw [if_pos e2, if_neg (by omega), if_neg (by omega)]; unfold swr; rw [if_neg (by omega), if_pos (by omega)]; congr 1; omega
    · rw [if_neg e2, if_neg (by omega), if_neg (by omega)]; unfold swr; rw [if_neg (by omega), if_neg (by omega)]
theorem rot_same (d : Nat → Nat) (m i : Nat) (hi : i ≤ m) : swr d (m - i) m i = rot d (m - i) m (m + i) := by
  funext x
  unfold rot swr
  by_cases e1 : m - i ≤ x ∧ x < m - i + i
  · rw [if_pos e1, if_pos (by omega)]
  · by_cases e2 : m ≤ x ∧ x < m + i
    · rw [if_neg e1, if_pos e2, if_neg (by omega), if_pos (by omega)]; congr 1; omega
    · rw [if_neg e1, if_neg e2, if_neg (by omega), if_neg (by omega)]
theorem rot_up (d : Nat → Nat) (a k : Nat) (h : a ≤ k) : swp (rot d a (a + 1) (k + 1)) k (k + 1) = rot d a (a + 1) (k + 2) := by
  funext x
  unfold swp rot
  by_cases e1 : x = k
  · subst e1
    rw [if_pos rfl, if_neg (by omega), if_neg (by omega), if_pos (by omega)]; congr 1; omega
  · rw [if_neg e1]
    by_cases e2 : x = k + 1
    · subst e2
      rw [if_pos rfl, if_neg (by omega), if_pos (by omega), if_neg (by omega), if_pos (by omega)]; congr 1; omega
    · rw [if_neg e2]
      by_cases e3 : a ≤ x ∧ x < a + (k + 1 - (a + 1))
      · rw [if_pos e3, if_pos (by omega)]
      · rw [if_neg e3, if_neg (by omega), if_neg (by omega), if_neg (by omega)]
theorem rot_dn (d : Nat → Nat) (m k : Nat) (h : k + 1 ≤ m) : swp (rot d (k + 1) m (m + 1)) (k + 1) k = rot d k m (m + 1) := by
  funext x
  unfold swp rot
  by_cases e1 : x = k + 1
  · subst e1
    rw [if_pos rfl, if_neg (by omega), if_neg (by omega), if_neg (by omega), if_pos (by omega)]; congr 1; omega
  · rw [if_neg e1]
    by_cases e2 : x = k
    · subst e2
      rw [if_pos rfl, if_pos (by omega), if_pos (by omega)]; congr 1; omega
    · rw [if_neg e2]
      by_cases e3 : k + 1 + (m + 1 - m) ≤ x ∧ x < m + 1
      · rw [if_neg (by omega), if_pos e3, if_neg (by omega), if_pos (by omega)]
      · rw [if_neg (by omega), if_neg e3, if_neg (by omega), if_neg (by omega)]
theorem Frm.rot (d : Nat → Nat) {a m b : Nat} (h1 : a ≤ m) (h2 : m ≤ b) : Frm d (rot d a m b) a b := by
  refine ⟨fun i hi => ?_, fun i g1 g2 => ?_⟩
  · unfold Go.Proofs.YtkinpfnelmdmlaaDoor.rot; rw [if_neg (by omega), if_neg (by omega)]
  · unfold Go.Proofs.YtkinpfnelmdmlaaDoor.rot
    by_cases e1 : a ≤ i ∧ i < a + (b - m)
    · exact ⟨i - a + m, by omega, by omega, by rw [if_pos e1]⟩
    · exact ⟨i - (b - m), by omega, by omega, by rw [if_neg e1, if_pos (by omega)]⟩
theorem rot_fst (d : Nat → Nat) {a m b x : Nat} (h1 : a ≤ x) (h2 : x < a + (b - m)) : rot d a m b x = d (x - a + m) := by
  unfold rot; rw [if_pos ⟨h1, h2⟩]
theorem rot_snd (d : Nat → Nat) {a m b x : Nat} (h1 : a + (b - m) ≤ x) (h2 : x < b) : rot d a m b x = d (x - (b - m)) := by
  unfold rot; rw [if_neg (by omega), if_pos ⟨h1, h2⟩]
theorem rot_out (d : Nat → Nat) {a m b x : Nat} (hm : m ≤ b) (ha : a ≤ m) (h : x < a ∨ b ≤ x) : rot d a m b x = d x := by
  unfold rot; rw [if_neg (by omega), if_neg (by omega)]
/-- Two runs that may be merged. -/
structure Mok (K : Nat → Int) (d : Nat → Nat) (a m b : Nat) : Prop where
  one : Inc K d a m
  two : Inc K d m b
  lt : ∀ i j, a ≤ i → i < m → m ≤ j → j < b → d i < d j
theorem Mok.of {K : Nat → Int} {d e : Nat → Nat} {a m b : Nat} (h : Mok K d a m b) (g : ∀ i, a ≤ i → i < b → e i = d i) (h1 : a ≤ m) (h2 : m ≤ b) : Mok K e a m b where
  one := fun i j x y z => by rw [g i x (by omega), g j (by omega) (by omega)]; exact h.one i j x y z
  two := fun i j x y z => by rw [g i (by omega) (by omega), g j (by omega) z]; exact h.two i j x y z
  lt := fun i j x y z t => by rw [g i x (by omega), g j (by omega) t]; exact h.lt i j x y z t
theorem Inc.of {K : Nat → Int} {d e : Nat → Nat} {a b : Nat} (h : Inc K d a b) (g : ∀ i, a ≤ i → i < b → e i = d i) : Inc K e a b :=
  fun i j x y z => by rw [g i x (by omega), g j (by omega) z]; exact h i j x y z
/-- Two ascending runs, all of the one below all of the other. -/
theorem Inc.join {K : Nat → Int} {d : Nat → Nat} {a m b : Nat} (h : Inc K d a m) (g : Inc K d m b) (hl : ∀ i j, a ≤ i → i < m → m ≤ j → j < b → Ro K (d i) (d j)) : Inc K d a b := by
  intro i j h1 h2 h3
  by_cases e1 : j < m
  · exact h i j h1 h2 e1
  · by_cases e2 : i < m
    · exact hl i j h1 e2 (by omega) h3
    · exact g i j (by omega) h2 h3
/-- The first of the one run moves up into the other. -/
theorem Mok.up {K : Nat → Int} {d : Nat → Nat} {a b i : Nat} (h : Mok K d a (a + 1) b) (h1 : a + 1 ≤ i) (h2 : i ≤ b) (hl : ∀ x, a + 1 ≤ x → x < i → Ro K (d x) (d a)) (hr : ∀ x, i ≤ x → x < b → Ro K (d a) (d x)) : Inc K (rot d a (a + 1) i) a b := by
  have o : ∀ x, i ≤ x → rot d a (a + 1) i x = d x := fun x hx => rot_out d (by omega) (by omega) (Or.inr hx)
  have l : rot d a (a + 1) i (i - 1) = d a := by rw [rot_snd d (by omega) (by omega)]; congr 1; omega
  have f : ∀ x, a ≤ x → x < i - 1 → rot d a (a + 1) i x = d (x + 1) := fun x g1 g2 => by rw [rot_fst d g1 (by omega)]; congr 1; omega
  intro x y g1 g2 g3
  by_cases e1 : y < i - 1
  · rw [f x g1 (by omega), f y (by omega) e1]; exact h.two _ _ (by omega) (by omega) (by omega)
  · by_cases e2 : y = i - 1
    · subst e2; rw [l, f x g1 g2]; exact hl _ (by omega) (by omega)
    · rw [o y (by omega)]
      by_cases e3 : x < i - 1
      · rw [f x g1 e3]; exact h.two _ _ (by omega) (by omega) g3
      · by_cases e4 : x = i - 1
        · subst e4; rw [l]; exact hr y (by omega) g3
        · rw [o x (by omega)]; exact h.two _ _ (by omega) g2 g3
/-- The only one of the second run moves down into the first. -/
theorem Mok.dn {K : Nat → Int} {d : Nat → Nat} {a m i : Nat} (h : Mok K d a m (m + 1)) (h1 : a ≤ i) (h2 : i ≤ m) (hl : ∀ x, a ≤ x → x < i → Ro K (d x) (d m)) (hr : ∀ x, i ≤ x → x < m → Ro K (d m) (d x)) : Inc K (rot d i m (m + 1)) a (m + 1) := by
  have o : ∀ x, x < i → rot d i m (m + 1) x = d x := fun x hx => rot_out d (by omega) (by omega) (Or.inl hx)
  have l : rot d i m (m + 1) i = d m := by rw [rot_fst d (by omega) (by omega)]; congr 1; omega
  have f : ∀ x, i < x → x < m + 1 → rot d i m (m + 1) x = d (x - 1) := fun x g1 g2 => by rw [rot_snd d (by omega) (by omega)]; congr 1; omega
  intro x y g1 g2 g3
  by_cases e1 : y < i
  · rw [o x (by omega), o y e1]; exact h.one _ _ g1 g2 (by omega)
  · by_cases e2 : y = i
    · subst e2; rw [l, o x g2]; exact hl _ g1 g2
    · rw [f y (by omega) g3]
      by_cases e3 : x < i
      · rw [o x e3]; exact h.one _ _ g1 (by omega) (by omega)
      · by_cases e4 : x = i
        · subst e4; rw [l]; exact hr _ (by omega) (by omega)
        · rw [f x (by omega) (by omega)]; exact h.one _ _ (by omega) (by omega) (by omega)
/-- Where the search for the cut begins and ends. -/
structure Cutr (a m b lo hi : Nat) : Prop where
  low : a ≤ lo
  lh : lo ≤ hi
  him : hi ≤ m
  hid : hi ≤ (a + b) / 2
  nb : (a + b) / 2 + m ≤ lo + b
  first : lo = a ∨ (a + b) / 2 + m = lo + b
  last : hi = m ∨ hi = (a + b) / 2
theorem cutr_hi {a m b : Nat} (h2 : m < b) (h : (a + b) / 2 < m) : Cutr a m b ((a + b) / 2 + m - b) ((a + b) / 2) :=
  ⟨by omega, by omega, by omega, by omega, by omega, by omega, by omega⟩
theorem cutr_lo {a m b : Nat} (h1 : a < m) (h : ¬ (a + b) / 2 < m) : Cutr a m b a m :=
  ⟨by omega, by omega, by omega, by omega, by omega, by omega, by omega⟩
/-- The cut: what stands ahead of the middle is below what stands behind it. -/
theorem Mok.cut {K : Nat → Int} {d : Nat → Nat} {a m b lo hi s : Nat} (h : Mok K d a m b) (h1 : a < m) (hc : Cutr a m b lo hi) (s1 : lo ≤ s) (s2 : s ≤ hi)
    (hl : ∀ c, lo ≤ c → c < s → Ro K (d c) (d ((a + b) / 2 + m - 1 - c))) (hr : ∀ c, s ≤ c → c < hi → Ro K (d ((a + b) / 2 + m - 1 - c)) (d c)) :
    Mok K (rot d s m ((a + b) / 2 + m - s)) a s ((a + b) / 2) ∧ Mok K (rot d s m ((a + b) / 2 + m - s)) ((a + b) / 2) ((a + b) / 2 + m - s) b
      ∧ (∀ i j, a ≤ i → i < (a + b) / 2 → (a + b) / 2 ≤ j → j < b → Ro K (rot d s m ((a + b) / 2 + m - s) i) (rot d s m ((a + b) / 2 + m - s) j)) ∧ Frm d (rot d s m ((a + b) / 2 + m - s)) a b := by
  obtain ⟨c1, c2, c3, c4, c5, c6, c7⟩ := hc
  generalize hM : (a + b) / 2 = M at *
  generalize hE : M + m - s = E
  have k1 : m ≤ E := by omega
  have k2 : E ≤ b := by omega
  have k3 : s + (E - m) = M := by omega
  have f1 : ∀ x, x < s → rot d s m E x = d x := fun x hx => rot_out d k1 (by omega) (Or.inl hx)
  have f2 : ∀ x, s ≤ x → x < M → rot d s m E x = d (x - s + m) := fun x g1 g2 => rot_fst d g1 (by omega)
  have f3 : ∀ x, M ≤ x → x < E → rot d s m E x = d (x - (E - m)) := fun x g1 g2 => rot_snd d (by omega) g2
  have f4 : ∀ x, E ≤ x → rot d s m E x = d x := fun x hx => rot_out d k1 (by omega) (Or.inr hx)
  -- the four runs
  have A1 : ∀ x y, a ≤ x → x < s → E ≤ y → y < b → Ro K (d x) (d y) := by
    intro x y g1 g2 g3 g4
    have q : Ro K (d (s - 1)) (d E) := by
      have := hl (s - 1) (by omega) (by omega)
      rwa [show M + m - 1 - (s - 1) = E by omega] at this
    rcases h.one.le g1 (show x ≤ s - 1 by omega) (by omega) with e | e
    · subst e
      rcases h.two.le k1 g3 g4 with e' | e'
      · subst e'; exact q
      · exact q.trans e'
    · rcases h.two.le k1 g3 g4 with e' | e'
      · subst e'; exact e.trans q
      · exact (e.trans q).trans e'
  have A2 : ∀ x y, m ≤ x → x < E → s ≤ y → y < m → Ro K (d x) (d y) := by
    intro x y g1 g2 g3 g4
    have q : Ro K (d (E - 1)) (d s) := by
      have := hr s (by omega) (by omega)
      rwa [show M + m - 1 - s = E - 1 by omega] at this
    rcases h.two.le g1 (show x ≤ E - 1 by omega) (by omega) with e | e
    · subst e
      rcases h.one.le (by omega) g3 g4 with e' | e'
      · subst e'; exact q
      · exact q.trans e'
    · rcases h.one.le (by omega) g3 g4 with e' | e'
      · subst e'; exact e.trans q
      · exact (e.trans q).trans e'
  refine ⟨⟨?_, ?_, ?_⟩, ⟨?_, ?_, ?_⟩, ?_, (Frm.rot d (by omega) k1).wide (by omega) k2⟩
  · intro i j x y z; rw [f1 i (by omega), f1 j z]; exact h.one i j x y (by omega)
  · intro i j x y z; rw [f2 i x (by omega), f2 j (by omega) z]; exact h.two _ _ (by omega) (by omega) (by omega)
  · intro i j x y z t; rw [f1 i y, f2 j z t]; exact h.lt _ _ x (by omega) (by omega) (by omega)
  · intro i j x y z; rw [f3 i x (by omega), f3 j (by omega) z]; exact h.one _ _ (by omega) (by omega) (by omega)
  · intro i j x y z; rw [f4 i x, f4 j (by omega)]; exact h.two _ _ (by omega) y z
  · intro i j x y z t; rw [f3 i x y, f4 j z]; exact h.lt _ _ (by omega) (by omega) (by omega) t
  · intro i j x y z t
    by_cases e1 : i < s
    · rw [f1 i e1]
      by_cases e2 : j < E
      · rw [f3 j z e2]; exact h.one _ _ x (by omega) (by omega)
      · rw [f4 j (by omega)]; exact A1 i j x e1 (by omega) t
    · rw [f2 i (by omega) y]
      by_cases e2 : j < E
      · rw [f3 j z e2]; exact A2 _ _ (by omega) (by omega) (by omega) (by omega)
      · rw [f4 j (by omega)]; exact h.two _ _ (by omega) (by omega) t
/-- What is asked at c holds at all below, or fails at all above. -/
theorem Mok.below {K : Nat → Int} {d : Nat → Nat} {a m b c x n : Nat} (h : Mok K d a m b) (ha : a ≤ x) (hx : x ≤ c) (hc : c < m) (hn : m + c ≤ n) (hb : n - x < b) (hq : Ro K (d c) (d (n - c))) : Ro K (d x) (d (n - x)) := by
  rcases h.one.le ha hx hc with e | e
  · subst e; exact hq
  · rcases h.two.le (show m ≤ n - c by omega) (show n - c ≤ n - x by omega) hb with e' | e'
    · rw [← e']; exact e.trans hq
    · exact (e.trans hq).trans e'
theorem Mok.above {K : Nat → Int} {d : Nat → Nat} {a m b c x n : Nat} (h : Mok K d a m b) (ha : a ≤ c) (hx : c ≤ x) (hc : x < m) (hn : m + x ≤ n) (hb : n - c < b) (hq : Ro K (d (n - c)) (d c)) : Ro K (d (n - x)) (d x) := by
  rcases h.one.le ha hx hc with e | e
  · subst e; exact hq
  · rcases h.two.le (show m ≤ n - x by omega) (show n - x ≤ n - c by omega) hb with e' | e'
    · rw [e']; exact hq.trans e
    · exact (e'.trans hq).trans e

/-- One element on its way down. -/
structure Ins (K : Nat → Int) (d cur : Nat → Nat) (a i j : Nat) : Prop where
  frm : Frm d cur a (i + 1)
  top : cur j = d i
  srt : ∀ p q, a ≤ p → p < q → q ≤ i → p ≠ j → q ≠ j → Ro K (cur p) (cur q)
  abv : ∀ q, j < q → q ≤ i → Ro K (cur j) (cur q)
  low : ∀ p, a ≤ p → p ≤ i → p ≠ j → cur p < d i
theorem Ins.start {K : Nat → Int} {d : Nat → Nat} {a i : Nat} (h : Inc K d a i) (g : ∀ p, a ≤ p → p < i → d p < d i) : Ins K d d a i i where
  frm := Frm.refl _ _ _
  top := rfl
  srt := fun p q h1 h2 _ _ h5 => h p q h1 h2 (by omega)
  abv := fun q h1 h2 => absurd h1 (by omega)
  low := fun p h1 h2 h3 => g p h1 (by omega)
theorem Ins.step {K : Nat → Int} {d cur : Nat → Nat} {a i j : Nat} (h : Ins K d cur a i (j + 1)) (hj : a ≤ j) (hi : j + 1 ≤ i) (hk : K (cur (j + 1)) < K (cur j)) : Ins K d (swp cur (j + 1) j) a i j := by
  have e1 : swp cur (j + 1) j (j + 1) = cur j := by unfold swp; rw [if_pos rfl]
  have e2 : swp cur (j + 1) j j = cur (j + 1) := by unfold swp; rw [if_neg (by omega), if_pos rfl]
  have e3 : ∀ x, x ≠ j + 1 → x ≠ j → swp cur (j + 1) j x = cur x := fun x h1 h2 => by unfold swp; rw [if_neg h1, if_neg h2]
  refine ⟨h.frm.trans (Frm.swp (by omega) (by omega) (by omega) (by omega)), by rw [e2]; exact h.top, ?_, ?_, ?_⟩
  · intro p q h1 h2 h3 h4 h5
    by_cases f1 : p = j + 1
    · subst f1; rw [e1, e3 q (by omega) h5]; exact h.srt j q hj (by omega) h3 (by omega) (by omega)
    · by_cases f2 : q = j + 1
      · subst f2; rw [e1, e3 p f1 h4]; exact h.srt p j h1 (by omega) (by omega) (by omega) (by omega)
      · rw [e3 p f1 h4, e3 q f2 h5]; exact h.srt p q h1 h2 h3 f1 f2
  · intro q h1 h2
    rw [e2]
    by_cases f2 : q = j + 1
    · subst f2; rw [e1]; exact ro_gt hk
    · rw [e3 q f2 (by omega)]; exact h.abv q (by omega) h2
  · intro p h1 h2 h3
    by_cases f1 : p = j + 1
    · subst f1; rw [e1]; exact h.low j hj (by omega) (by omega)
    · rw [e3 p f1 h3]; exact h.low p h1 h2 f1
theorem Ins.done {K : Nat → Int} {d cur : Nat → Nat} {a i j : Nat} (h : Ins K d cur a i j) (hj : a ≤ j) (hi : j ≤ i) (hk : j = a ∨ ¬ K (cur j) < K (cur (j - 1))) : Inc K cur a (i + 1) := by
  have key : ∀ p, a ≤ p → p < j → Ro K (cur p) (cur j) := by
    intro p h1 h2
    rcases hk with e | e
    · omega
    · have q : Ro K (cur (j - 1)) (cur j) := ro_lt (by rw [h.top]; exact h.low (j - 1) (by omega) (by omega) (by omega)) e
      by_cases f : p = j - 1
      · subst f; exact q
      · exact (h.srt p (j - 1) h1 (by omega) (by omega) (by omega) (by omega)).trans q
  intro p q h1 h2 h3
  by_cases f1 : p = j
  · subst f1; exact h.abv q h2 (by omega)
  · by_cases f2 : q = j
    · subst f2; exact key p h1 h2
    · exact h.srt p q h1 h2 (by omega) f1 f2
/-- A sorted run of just its own numbers. -/
def Bk (K : Nat → Int) (d : Nat → Nat) (a b : Nat) : Prop := Inc K d a b ∧ ∀ i, a ≤ i → i < b → a ≤ d i ∧ d i < b
theorem Bk.nil (K : Nat → Int) (d : Nat → Nat) {a b : Nat} (h : b ≤ a) : Bk K d a b :=
  ⟨fun i j h1 h2 h3 => absurd h3 (by omega), fun i h1 h2 => absurd h2 (by omega)⟩
theorem Bk.of {K : Nat → Int} {d e : Nat → Nat} {a b x y : Nat} (h : Bk K d a b) (g : Frm d e x y) (hx : b ≤ x ∨ y ≤ a) : Bk K e a b :=
  ⟨h.1.of fun i h1 h2 => g.1 i (by omega), fun i h1 h2 => by rw [g.1 i (by omega)]; exact h.2 i h1 h2⟩
theorem Bk.mok {K : Nat → Int} {d : Nat → Nat} {a m b : Nat} (h : Bk K d a m) (g : Bk K d m b) : Mok K d a m b :=
  ⟨h.1, g.1, fun i j h1 h2 h3 h4 => by have := (h.2 i h1 h2).2; have := (g.2 j h3 h4).1; omega⟩
theorem Bk.merged {K : Nat → Int} {d e : Nat → Nat} {a m b : Nat} (h : Bk K d a m) (g : Bk K d m b) (h1 : a ≤ m) (h2 : m ≤ b) (f : Frm d e a b) (hi : Inc K e a b) : Bk K e a b := by
  refine ⟨hi, f.all (p := fun v => a ≤ v ∧ v < b) fun i x y => ?_⟩
  by_cases c : i < m
  · have := h.2 i x c; omega
  · have := g.2 i (by omega) y; omega
/-- The first pass: runs of twenty. -/
def Fst (K : Nat → Int) (d : Nat → Nat) (q : Nat) : Prop := (∀ k, k < q → Bk K d (20 * k) (20 * k + 20)) ∧ ∀ i, 20 * q ≤ i → d i = i
theorem Fst.asc {K : Nat → Int} {d : Nat → Nat} {q : Nat} (h : Fst K d q) : ∀ i j, 20 * q ≤ i → i < j → d i < d j := fun i j h1 h2 => by
  rw [h.2 i h1, h.2 j (by omega)]; exact h2
theorem Fst.bk {K : Nat → Int} {d e : Nat → Nat} {q b : Nat} (h : Fst K d q) (f : Frm d e (20 * q) b) (hi : Inc K e (20 * q) b) : Bk K e (20 * q) b :=
  ⟨hi, f.all (p := fun v => 20 * q ≤ v ∧ v < b) fun i x y => by rw [h.2 i x]; exact ⟨x, y⟩⟩
theorem Fst.step {K : Nat → Int} {d e : Nat → Nat} {q : Nat} (h : Fst K d q) (f : Frm d e (20 * q) (20 * q + 20)) (hi : Inc K e (20 * q) (20 * q + 20)) : Fst K e (q + 1) := by
  refine ⟨fun k hk => ?_, fun i hi' => by rw [f.1 i (by omega)]; exact h.2 i (by omega)⟩
  by_cases c : k < q
  · exact (h.1 k c).of f (by omega)
  · obtain rfl : k = q := by omega
    exact h.bk f hi
/-- All runs of a length. -/
def Lvl (K : Nat → Int) (d : Nat → Nat) (n s : Nat) : Prop := ∀ k, Bk K d (s * k) (min (s * k + s) n)
theorem Fst.lvl {K : Nat → Int} {d e : Nat → Nat} {q n : Nat} (h : Fst K d q) (h1 : 20 * q ≤ n) (h2 : n < 20 * q + 20) (f : Frm d e (20 * q) n) (hi : Inc K e (20 * q) n) : Lvl K e n 20 := by
  intro k
  by_cases c : k < q
  · rw [Nat.min_eq_left (by omega)]; exact (h.1 k c).of f (by omega)
  · by_cases c2 : k = q
    · subst c2; rw [Nat.min_eq_right (by omega)]; exact h.bk f hi
    · exact Bk.nil _ _ (by omega)
theorem Lvl.all {K : Nat → Int} {d : Nat → Nat} {n s : Nat} (h : Lvl K d n s) (hs : n ≤ s) : Bk K d 0 n := by
  have := h 0
  rwa [Nat.mul_zero, Nat.zero_add, Nat.min_eq_right hs] at this
/-- Of the runs of a length some are merged already, two by two. -/
def Mdl (K : Nat → Int) (d : Nat → Nat) (n s q : Nat) : Prop := (∀ k, k < q → Bk K d (2 * s * k) (min (2 * s * k + 2 * s) n)) ∧ ∀ k, 2 * q ≤ k → Bk K d (s * k) (min (s * k + s) n)
theorem Lvl.mdl {K : Nat → Int} {d : Nat → Nat} {n s : Nat} (h : Lvl K d n s) : Mdl K d n s 0 := ⟨fun k hk => absurd hk (by omega), fun k _ => h k⟩
theorem Mdl.one {K : Nat → Int} {d : Nat → Nat} {n s q a : Nat} (h : Mdl K d n s q) (ha : a = 2 * s * q) (hn : a + s ≤ n) : Bk K d a (a + s) := by
  have g := h.2 (2 * q) (by omega)
  have e : s * (2 * q) = a := by rw [ha, Nat.mul_left_comm, Nat.mul_assoc]
  rwa [e, Nat.min_eq_left hn] at g
theorem Mdl.two {K : Nat → Int} {d : Nat → Nat} {n s q a b : Nat} (h : Mdl K d n s q) (ha : a = 2 * s * q) (hb : b = min (a + 2 * s) n) : Bk K d (a + s) b := by
  have g := h.2 (2 * q + 1) (by omega)
  have e : s * (2 * q + 1) = a + s := by rw [Nat.mul_add, Nat.mul_one, ha, Nat.mul_left_comm, Nat.mul_assoc]
  rw [e, show a + s + s = a + 2 * s by omega, ← hb] at g
  exact g
theorem Mdl.step {K : Nat → Int} {d e : Nat → Nat} {n s q a b : Nat} (h : Mdl K d n s q) (ha : a = 2 * s * q) (hb : b = min (a + 2 * s) n) (hn : a + s ≤ n) (f : Frm d e a b) (hi : Inc K e a b) : Mdl K e n s (q + 1) := by
  refine ⟨fun k hk => ?_, fun k hk => ?_⟩
  · by_cases c : k < q
    · refine (h.1 k c).of f (Or.inl ?_)
      have : 2 * s * (k + 1) ≤ 2 * s * q := Nat.mul_le_mul_left _ c
      rw [Nat.mul_add, Nat.mul_one] at this
      omega
    · obtain rfl : k = q := by omega
      rw [← ha, ← hb]
      exact (h.one ha hn).merged (h.two ha hb) (by omega) (by omega) f hi
  · refine (h.2 k (by omega)).of f (Or.inr ?_)
    have : s * (2 * q + 2) ≤ s * k := Nat.mul_le_mul_left _ (by omega)
    have e1 : s * (2 * q + 2) = a + 2 * s := by rw [Nat.mul_add, ha, Nat.mul_left_comm, Nat.mul_assoc, Nat.mul_comm s 2]
    omega
theorem Mdl.lvl {K : Nat → Int} {d : Nat → Nat} {n s q a : Nat} (h : Mdl K d n s q) (ha : a = 2 * s * q) (hn : n ≤ a + s) : Lvl K d n (2 * s) := by
  intro k
  by_cases c : k < q
  · exact h.1 k c
  · by_cases c2 : k = q
    · subst c2
      have g := h.2 (2 * k) (by omega)
      have e : s * (2 * k) = a := by rw [ha, Nat.mul_left_comm, Nat.mul_assoc]
      rw [e, Nat.min_eq_right hn] at g
      rw [← ha, Nat.min_eq_right (by omega)]
      exact g
    · refine Bk.nil _ _ ?_
      have : 2 * s * (q + 1) ≤ 2 * s * k := Nat.mul_le_mul_left _ (by omega)
      rw [Nat.mul_add, Nat.mul_one] at this
      omega
theorem Mdl.last {K : Nat → Int} {d : Nat → Nat} {n s q a : Nat} (h : Mdl K d n s (q + 1)) (ha : a = 2 * s * q) (hn : n ≤ a + 2 * s) : Lvl K d n (2 * s) := by
  refine h.lvl (a := a + 2 * s) ?_ (by omega)
  rw [Nat.mul_add, Nat.mul_one, ha]
/-- As many numbers as places, none twice: all. -/
theorem onto_of : ∀ (n : Nat) (f : Nat → Nat), (∀ i, i < n → f i < n) → (∀ i j, i < n → j < n → f i = f j → i = j) → ∀ v, v < n → ∃ i, i < n ∧ f i = v := by
  intro n
  induction n with
  | zero => intro f _ _ v hv; omega
  | succ n ih =>
    intro f hf hi v hv
    have hu := hf n (by omega)
    have g1 : ∀ i, i < n → f i = n → f n < n := fun i h1 h2 => by
      rcases Nat.lt_or_ge (f n) n with h | h
      · exact h
      · have := hi i n (by omega) (by omega) (by omega); omega
    have h := ih (fun i => if f i = n then f n else f i)
      (fun i h1 => by
        show (if f i = n then f n else f i) < n
        by_cases c : f i = n
        · rw [if_pos c]; exact g1 i h1 c
        · rw [if_neg c]; have := hf i (by omega); omega)
      (fun i j h1 h2 h3 => by
        have h3 : (if f i = n then f n else f i) = (if f j = n then f n else f j) := h3
        by_cases c : f i = n
        · by_cases c2 : f j = n
          · exact hi i j (by omega) (by omega) (by omega)
          · rw [if_pos c, if_neg c2] at h3; have := hi n j (by omega) (by omega) h3; omega
        · by_cases c2 : f j = n
          · rw [if_neg c, if_pos c2] at h3; have := hi i n (by omega) (by omega) h3; omega
          · rw [if_neg c, if_neg c2] at h3; exact hi i j (by omega) (by omega) h3)
    by_cases c : v = f n
    · exact ⟨n, by omega, c.symm⟩
    · by_cases c2 : v = n
      · obtain ⟨i, h1, h2⟩ := h (f n) (by omega)
        have h2 : (if f i = n then f n else f i) = f n := h2
        by_cases c3 : f i = n
        · exact ⟨i, by omega, by omega⟩
        · rw [if_neg c3] at h2; have := hi i n (by omega) (by omega) h2; omega
      · obtain ⟨i, h1, h2⟩ := h v (by omega)
        have h2 : (if f i = n then f n else f i) = v := h2
        by_cases c3 : f i = n
        · rw [if_pos c3] at h2; omega
        · rw [if_neg c3] at h2; exact ⟨i, by omega, h2⟩
theorem Inc.inj {K : Nat → Int} {d : Nat → Nat} {n i j : Nat} (h : Inc K d 0 n) (h1 : i < n) (h2 : j < n) (e : d i = d j) : i = j := by
  rcases Nat.lt_trichotomy i j with c | c | c
  · have := h i j (by omega) c h2; rw [e] at this; exact this.irr.elim
  · exact c
  · have := h j i (by omega) c h1; rw [e] at this; exact this.irr.elim
theorem Bk.onto {K : Nat → Int} {d : Nat → Nat} {n : Nat} (h : Bk K d 0 n) : ∀ v, v < n → ∃ i, i < n ∧ d i = v :=
  onto_of n d (fun i hi => (h.2 i (by omega) hi).2) fun _ _ h1 h2 e => h.1.inj h1 h2 e
/-- There is one order only. -/
theorem Bk.one {K : Nat → Int} {d e : Nat → Nat} {n : Nat} (h : Bk K d 0 n) (g : Bk K e 0 n) : ∀ i, i < n → d i = e i := by
  intro i
  induction i using Nat.strongRecOn with
  | ind i ih =>
    intro hi
    obtain ⟨j, j1, j2⟩ := g.onto (d i) (h.2 i (by omega) hi).2
    obtain ⟨k, k1, k2⟩ := h.onto (e i) (g.2 i (by omega) hi).2
    have a1 : i ≤ j := by
      rcases Nat.lt_or_ge j i with c | c
      · have := ih j c j1; rw [j2] at this; have := h.1.inj j1 hi this; omega
      · exact c
    have a2 : i ≤ k := by
      rcases Nat.lt_or_ge k i with c | c
      · have := ih k c k1; rw [k2] at this; have := g.1.inj hi k1 this; omega
      · exact c
    rcases Nat.lt_or_ge i j with c | c
    · rcases Nat.lt_or_ge i k with c' | c'
      · have r1 := g.1 i j (by omega) c j1
        have r2 := h.1 i k (by omega) c' k1
        rw [j2] at r1; rw [k2] at r2
        exact (r1.trans r2).irr.elim
      · obtain rfl : k = i := by omega
        exact k2
    · obtain rfl : j = i := by omega
      exact j2.symm
/-- One number more, laid at its place. -/
theorem Bk.ins {K : Nat → Int} {o : Nat → Nat} {i l : Nat} (h : Bk K o 0 i) (hl : l ≤ i) (h1 : ∀ x, x < l → ¬ K i < K (o x)) (h2 : ∀ x, l ≤ x → x < i → K i < K (o x)) : Bk K (rot (fun x => if x = i then i else o x) l i (i + 1)) 0 (i + 1) := by
  have e1 : ∀ x, x < i → (if x = i then i else o x) = o x := fun x hx => if_neg (by omega)
  have m : Mok K (fun x => if x = i then i else o x) 0 i (i + 1) := by
    refine ⟨fun p q x y z => ?_, fun p q x y z => absurd z (by omega), fun p q x y z t => ?_⟩
    · show Ro K (if p = i then i else o p) (if q = i then i else o q)
      rw [e1 p (by omega), e1 q z]; exact h.1 p q x y z
    · show (if p = i then i else o p) < (if q = i then i else o q)
      rw [e1 p y, if_pos (by omega)]; exact (h.2 p x y).2
  refine ⟨m.dn (by omega) hl (fun x _ hx => ?_) (fun x hx hi => ?_), ?_⟩
  · show Ro K (if x = i then i else o x) (if i = i then i else o i)
    rw [e1 x (by omega), if_pos rfl]
    exact ro_lt (h.2 x (by omega) (by omega)).2 (h1 x hx)
  · show Ro K (if i = i then i else o i) (if x = i then i else o x)
    rw [e1 x hi, if_pos rfl]
    exact ro_gt (h2 x hx hi)
  · refine ((Frm.rot _ hl (by omega)).wide (Nat.zero_le _) (Nat.le_refl _)).all (p := fun v => 0 ≤ v ∧ v < i + 1) fun x _ hx => ?_
    show 0 ≤ (if x = i then i else o x) ∧ (if x = i then i else o x) < i + 1
    by_cases c : x = i
    · rw [if_pos c]; omega
    · rw [if_neg c]; have := (h.2 x (by omega) (by omega)).2; omega
/-- There is a place for one number more. -/
theorem Bk.place {K : Nat → Int} {o : Nat → Nat} {i : Nat} (h : Bk K o 0 i) (v : Int) : ∃ l, l ≤ i ∧ (∀ x, x < l → ¬ v < K (o x)) ∧ ∀ x, l ≤ x → x < i → v < K (o x) := by
  have key : ∀ l, l ≤ i → (∀ x, l ≤ x → x < i → v < K (o x)) → ∃ l, l ≤ i ∧ (∀ x, x < l → ¬ v < K (o x)) ∧ ∀ x, l ≤ x → x < i → v < K (o x) := by
    intro l
    induction l with
    | zero => intro h1 h2; exact ⟨0, h1, fun x hx => absurd hx (by omega), h2⟩
    | succ l ih =>
      intro h1 h2
      by_cases c : v < K (o l)
      · refine ih (by omega) fun x g1 g2 => ?_
        by_cases c2 : x = l
        · subst c2; exact c
        · exact h2 x (by omega) g2
      · refine ⟨l + 1, h1, fun x hx => ?_, h2⟩
        by_cases c2 : x = l
        · subst c2; exact c
        · have := h.1 x l (by omega) (by omega) (by omega)
          unfold Ro at this; omega
  exact key i (Nat.le_refl _) fun x h1 h2 => absurd h2 (by omega)

end Go.Proofs.YtkinpfnelmdmlaaDoor
