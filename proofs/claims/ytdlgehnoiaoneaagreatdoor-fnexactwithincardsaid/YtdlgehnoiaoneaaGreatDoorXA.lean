/-
  Sorting numbers by keys so that the first of the same keys stays first: runs, their merging by halves, and that there is one order only.
  Contracts of the library's exchange of two runs and of two runs beside each other, at numbers: for every row of the call's own.
  Contract of the library's insertion sort at numbers, by keys that a function value compares.
  Contract of the library's merging of two runs, at numbers: where one of the two has one number alone.
  Contract of the library's merging of two runs, at numbers, whatever their lengths.
  Contract of the library's stable sort at numbers: the row of all numbers below n comes out ordered by their keys, of the same keys the first first.
-/
import Derived.Test.YtdlgehnoiaoneaaGreatDoorGA
import Derived.Test.YtdlgehnoiaoneaaGreatDoorGT
import Derived.Deep.OwnRows
import Derived.BigRegion
import Derived.BigQuiet
import Derived.Deep.RegionHeld3
import Derived.Shelf.Abstract
import Derived.Deep.DeepCutAuto
namespace Go.Proofs.YtdlgehnoiaoneaaGreatDoor
open Go.RowKit

/-- The order of numbers by their keys, of the same keys the first first. -/
def Ro (K : Nat → Int) (i j : Nat) : Prop := K i < K j ∨ (K i = K j ∧ i < j)
theorem Ro.trans {K : Nat → Int} {i j k : Nat} (h : Ro K i j) (g : Ro K j k) : Ro K i k := by
 unfold Ro at *; omega
theorem Ro.irr {K : Nat → Int} {i : Nat} (h : Ro K i i) : False := by
 unfold Ro at h; omega
theorem ro_lt {K : Nat → Int} {i j : Nat} (h : i < j) (g : ¬ K j < K i) : Ro K i j := by
 unfold Ro; omega
theorem ro_gt {K : Nat → Int} {i j : Nat} (g : K j < K i) : Ro K j i := Or.inl g
/-- Ascending between two places. -/
def Inc (K : Nat → Int) (d : Nat → Nat) (a b : Nat) : Prop := ∀ i j, a ≤ i → i < j → j < b → Ro K (d i) (d j)
theorem Inc.sub {K : Nat → Int} {d : Nat → Nat} {a b a' b' : Nat} (h : Inc K d a b) (ha : a ≤ a') (hb : b' ≤ b) : Inc K d a' b' :=
 fun i j h1 h2 h3 => h i j (by omega) h2 (by omega)
theorem Inc.le {K : Nat → Int} {d : Nat → Nat} {a b i j : Nat} (h : Inc K d a b) (h1 : a ≤ i) (h2 : i ≤ j) (h3 : j < b) : i = j ∨ Ro K (d i) (d j) := by
 rcases Nat.lt_or_ge i j with g | g
 ·exact Or.inr (h i j h1 g h3)
 ·exact Or.inl (by omega)
/-- Nothing is written but between two places, and what stands there stood there. -/
def Frm (d d' : Nat → Nat) (a b : Nat) : Prop := (∀ i, i < a ∨ b ≤ i → d' i = d i) ∧ ∀ i, a ≤ i → i < b → ∃ j, a ≤ j ∧ j < b ∧ d' i = d j
theorem Frm.refl (d : Nat → Nat) (a b : Nat) : Frm d d a b := ⟨fun _ _ => rfl, fun i h1 h2 => ⟨i, h1, h2, rfl⟩⟩
theorem Frm.trans {d e f : Nat → Nat} {a b : Nat} (h : Frm d e a b) (g : Frm e f a b) : Frm d f a b := by
 refine ⟨fun i hi => (g.1 i hi).trans (h.1 i hi), fun i h1 h2 => ?_⟩
 obtain ⟨j, j1, j2, j3⟩ := g.2 i h1 h2
 obtain ⟨k, k1, k2, k3⟩ := h.2 j j1 j2
 exact ⟨k, k1, k2, j3.trans k3⟩
theorem Frm.wide {d e : Nat → Nat} {a b a' b' : Nat} (h : Frm d e a b) (ha : a' ≤ a) (hb : b ≤ b') : Frm d e a' b' := by
 refine ⟨fun i hi => h.1 i (by omega), fun i h1 h2 => ?_⟩
 by_cases hi : a ≤ i ∧ i < b
 ·obtain ⟨j, j1, j2, j3⟩ := h.2 i hi.1 hi.2
  exact ⟨j, by omega, by omega, j3⟩
 ·exact ⟨i, h1, h2, h.1 i (by omega)⟩
theorem Frm.all {d e : Nat → Nat} {a b : Nat} (h : Frm d e a b) {p : Nat → Prop} (hp : ∀ i, a ≤ i → i < b → p (d i)) : ∀ i, a ≤ i → i < b → p (e i) := by
 intro i h1 h2
 obtain ⟨j, j1, j2, j3⟩ := h.2 i h1 h2
 rw [j3]; exact hp j j1 j2
/-- Two places exchanged. -/
def swp (d : Nat → Nat) (x y : Nat) : Nat → Nat := fun i => if i = x then d y else if i = y then d x else d i
theorem Frm.swp {d : Nat → Nat} {x y a b : Nat} (h1 : a ≤ x) (h2 : x < b) (h3 : a ≤ y) (h4 : y < b) : Frm d (swp d x y) a b := by
 refine ⟨fun i hi => ?_, fun i g1 g2 => ?_⟩
 ·unfold Go.Proofs.YtdlgehnoiaoneaaGreatDoor.swp; rw [if_neg (by omega), if_neg (by omega)]
 ·unfold Go.Proofs.YtdlgehnoiaoneaaGreatDoor.swp
  by_cases e1 : i = x
  ·exact ⟨y, h3, h4, by rw [if_pos e1]⟩
  ·by_cases e2 : i = y
   ·exact ⟨x, h1, h2, by rw [if_neg e1, if_pos e2]⟩
   ·exact ⟨i, g1, g2, by rw [if_neg e1, if_neg e2]⟩
/-- Two runs of n places exchanged. -/
def swr (d : Nat → Nat) (a b n : Nat) : Nat → Nat := fun x => if a ≤ x ∧ x < a + n then d (x - a + b) else if b ≤ x ∧ x < b + n then d (x - b + a) else d x
theorem swr_zero (d : Nat → Nat) (a b : Nat) : swr d a b 0 = d := by
 funext x; unfold swr; rw [if_neg (by omega), if_neg (by omega)]
theorem swr_succ (d : Nat → Nat) (a b n : Nat) (h : a + n < b) : swp (swr d a b n) (a + n) (b + n) = swr d a b (n + 1) := by
 funext x
 unfold swp swr
 by_cases e1 : x = a + n
 ·subst e1
  rw [if_pos rfl, if_neg (by omega), if_neg (by omega), if_pos (by omega)]
  congr 1; omega
 ·by_cases e2 : x = b + n
  ·subst e2
   rw [if_neg e1, if_pos rfl, if_neg (by omega), if_neg (by omega), if_neg (by omega), if_pos (by omega)]
   congr 1; omega
  ·rw [if_neg e1, if_neg e2]
   by_cases e3 : a ≤ x ∧ x < a + n
   ·rw [if_pos e3, if_pos (by omega)]
   ·by_cases e4 : b ≤ x ∧ x < b + n
    ·rw [if_neg e3, if_pos e4, if_neg (by omega), if_pos (by omega)]
    ·rw [if_neg e3, if_neg e4, if_neg (by omega), if_neg (by omega)]
/-- Two runs beside each other in the other order. -/
def rot (d : Nat → Nat) (a m b : Nat) : Nat → Nat := fun x => if a ≤ x ∧ x < a + (b - m) then d (x - a + m) else if a + (b - m) ≤ x ∧ x < b then d (x - (b - m)) else d x
theorem rot_a (d : Nat → Nat) (m b : Nat) : rot d m m b = d := by
 funext x; unfold rot
 by_cases e1 : m ≤ x ∧ x < m + (b - m)
 ·rw [if_pos e1]; congr 1; omega
 ·rw [if_neg e1, if_neg (by omega)]
theorem rot_b (d : Nat → Nat) (a m : Nat) : rot d a m m = d := by
 funext x; unfold rot
 rw [if_neg (by omega)]
 by_cases e1 : a + (m - m) ≤ x ∧ x < m
 ·rw [if_pos e1]; congr 1; omega
 ·rw [if_neg e1]
theorem rot_more (d : Nat → Nat) (m i j : Nat) (hi : i ≤ m) (h : j < i) (hj : 0 < j) : rot (swr d (m - i) m j) (m - (i - j)) m (m + j) = rot d (m - i) m (m + j) := by
 funext x
 unfold rot
 by_cases e1 : m - i ≤ x ∧ x < m - i + (m + j - m)
 ·rw [if_pos e1, if_neg (by omega), if_neg (by omega)]
  unfold swr; rw [if_pos (by omega)]
 ·rw [if_neg e1]
  by_cases e2 : m - i + (m + j - m) ≤ x ∧ x < m + j
  ·rw [if_pos e2]
   by_cases e3 : m - (i - j) ≤ x ∧ x < m - (i - j) + (m + j - m)
   ·rw [if_pos e3]; unfold swr; rw [if_neg (by omega), if_pos (by omega)]; congr 1; omega
   ·rw [if_neg e3, if_pos (by omega)]; unfold swr; rw [if_neg (by omega), if_neg (by omega)]
  ·rw [if_neg e2, if_neg (by omega), if_neg (by omega)]; unfold swr; rw [if_neg (by omega), if_neg (by omega)]
theorem rot_less (d : Nat → Nat) (m i j : Nat) (hi : i ≤ m) (h : i < j) (h0 : 0 < i) : rot (swr d (m - i) (m + j - i) i) (m - i) m (m + (j - i)) = rot d (m - i) m (m + j) := by
 funext x
 unfold rot
 by_cases e1 : m - i ≤ x ∧ x < m - i + (m + j - m)
 ·rw [if_pos e1]
  by_cases e3 : m - i ≤ x ∧ x < m - i + (m + (j - i) - m)
  ·rw [if_pos e3]; unfold swr; rw [if_neg (by omega)]
   by_cases e4 : m + j - i ≤ x - (m - i) + m ∧ x - (m - i) + m < m + j - i + i
   ·exfalso; omega
   ·rw [if_neg e4]
  ·rw [if_neg e3, if_pos (by omega)]; unfold swr; rw [if_pos (by omega)]; congr 1; omega
 ·rw [if_neg e1]
  by_cases e2 : m - i + (m + j - m) ≤ x ∧ x < m + j
  ·rw [if_pos e2, if_neg (by omega), if_neg (by omega)]; unfold swr; rw [if_neg (by omega), if_pos (by omega)]; congr 1; omega
  ·rw [if_neg e2, if_neg (by omega), if_neg (by omega)]; unfold swr; rw [if_neg (by omega), if_neg (by omega)]
theorem rot_same (d : Nat → Nat) (m i : Nat) (hi : i ≤ m) : swr d (m - i) m i = rot d (m - i) m (m + i) := by
 funext x
 unfold rot swr
 by_cases e1 : m - i ≤ x ∧ x < m - i + i
 ·rw [if_pos e1, if_pos (by omega)]
 ·by_cases e2 : m ≤ x ∧ x < m + i
  ·rw [if_neg e1, if_pos e2, if_neg (by omega), if_pos (by omega)]; congr 1; omega
  ·rw [if_neg e1, if_neg e2, if_neg (by omega), if_neg (by omega)]
theorem rot_up (d : Nat → Nat) (a k : Nat) (h : a ≤ k) : swp (rot d a (a + 1) (k + 1)) k (k + 1) = rot d a (a + 1) (k + 2) := by
 funext x
 unfold swp rot
 by_cases e1 : x = k
 ·subst e1
  rw [if_pos rfl, if_neg (by omega), if_neg (by omega), if_pos (by omega)]; congr 1; omega
 ·rw [if_neg e1]
  by_cases e2 : x = k + 1
  ·subst e2
   rw [if_pos rfl, if_neg (by omega), if_pos (by omega), if_neg (by omega), if_pos (by omega)]; congr 1; omega
  ·rw [if_neg e2]
   by_cases e3 : a ≤ x ∧ x < a + (k + 1 - (a + 1))
   ·rw [if_pos e3, if_pos (by omega)]
   ·rw [if_neg e3, if_neg (by omega), if_neg (by omega), if_neg (by omega)]
theorem rot_dn (d : Nat → Nat) (m k : Nat) (h : k + 1 ≤ m) : swp (rot d (k + 1) m (m + 1)) (k + 1) k = rot d k m (m + 1) := by
 funext x
 unfold swp rot
 by_cases e1 : x = k + 1
 ·subst e1
  rw [if_pos rfl, if_neg (by omega), if_neg (by omega), if_neg (by omega), if_pos (by omega)]; congr 1; omega
 ·rw [if_neg e1]
  by_cases e2 : x = k
  ·subst e2
   rw [if_pos rfl, if_pos (by omega), if_pos (by omega)]; congr 1; omega
  ·rw [if_neg e2]
   by_cases e3 : k + 1 + (m + 1 - m) ≤ x ∧ x < m + 1
   ·rw [if_neg (by omega), if_pos e3, if_neg (by omega), if_pos (by omega)]
   ·rw [if_neg (by omega), if_neg e3, if_neg (by omega), if_neg (by omega)]
theorem Frm.rot (d : Nat → Nat) {a m b : Nat} (h1 : a ≤ m) (h2 : m ≤ b) : Frm d (rot d a m b) a b := by
 refine ⟨fun i hi => ?_, fun i g1 g2 => ?_⟩
 ·unfold Go.Proofs.YtdlgehnoiaoneaaGreatDoor.rot; rw [if_neg (by omega), if_neg (by omega)]
 ·unfold Go.Proofs.YtdlgehnoiaoneaaGreatDoor.rot
  by_cases e1 : a ≤ i ∧ i < a + (b - m)
  ·exact ⟨i - a + m, by omega, by omega, by rw [if_pos e1]⟩
  ·exact ⟨i - (b - m), by omega, by omega, by rw [if_neg e1, if_pos (by omega)]⟩
theorem rot_fst (d : Nat → Nat) {a m b x : Nat} (h1 : a ≤ x) (h2 : x < a + (b - m)) : rot d a m b x = d (x - a + m) := by
 unfold rot; rw [if_pos ⟨h1, h2⟩]
theorem rot_snd (d : Nat → Nat) {a m b x : Nat} (h1 : a + (b - m) ≤ x) (h2 : x < b) : rot d a m b x = d (x - (b - m)) := by
 unfold rot; rw [if_neg (by omega), if_pos ⟨h1, h2⟩]
theorem rot_out (d : Nat → Nat) {a m b x : Nat} (hm : m ≤ b) (ha : a ≤ m) (h : x < a ∨ b ≤ x) : rot d a m b x = d x := by
 unfold rot; rw [if_neg (by omega), if_neg (by omega)]
/-- Two runs that may be merged. -/
structure Mok (K : Nat → Int) (d : Nat → Nat) (a m b : Nat) : Prop where
 one : Inc K d a m
 two : Inc K d m b
 lt : ∀ i j, a ≤ i → i < m → m ≤ j → j < b → d i < d j
theorem Mok.of {K : Nat → Int} {d e : Nat → Nat} {a m b : Nat} (h : Mok K d a m b) (g : ∀ i, a ≤ i → i < b → e i = d i) (h1 : a ≤ m) (h2 : m ≤ b) : Mok K e a m b where
 one := fun i j x y z => by rw [g i x (by omega), g j (by omega) (by omega)]; exact h.one i j x y z
 two := fun i j x y z => by rw [g i (by omega) (by omega), g j (by omega) z]; exact h.two i j x y z
 lt := fun i j x y z t => by rw [g i x (by omega), g j (by omega) t]; exact h.lt i j x y z t
theorem Inc.of {K : Nat → Int} {d e : Nat → Nat} {a b : Nat} (h : Inc K d a b) (g : ∀ i, a ≤ i → i < b → e i = d i) : Inc K e a b :=
 fun i j x y z => by rw [g i x (by omega), g j (by omega) z]; exact h i j x y z
/-- Two ascending runs, all of the one below all of the other. -/
theorem Inc.join {K : Nat → Int} {d : Nat → Nat} {a m b : Nat} (h : Inc K d a m) (g : Inc K d m b) (hl : ∀ i j, a ≤ i → i < m → m ≤ j → j < b → Ro K (d i) (d j)) : Inc K d a b := by
 intro i j h1 h2 h3
 by_cases e1 : j < m
 ·exact h i j h1 h2 e1
 ·by_cases e2 : i < m
  ·exact hl i j h1 e2 (by omega) h3
  ·exact g i j (by omega) h2 h3
/-- The first of the one run moves up into the other. -/
theorem Mok.up {K : Nat → Int} {d : Nat → Nat} {a b i : Nat} (h : Mok K d a (a + 1) b) (h1 : a + 1 ≤ i) (h2 : i ≤ b) (hl : ∀ x, a + 1 ≤ x → x < i → Ro K (d x) (d a)) (hr : ∀ x, i ≤ x → x < b → Ro K (d a) (d x)) : Inc K (rot d a (a + 1) i) a b := by
 have o : ∀ x, i ≤ x → rot d a (a + 1) i x = d x := fun x hx => rot_out d (by omega) (by omega) (Or.inr hx)
 have l : rot d a (a + 1) i (i - 1) = d a := by rw [rot_snd d (by omega) (by omega)]; congr 1; omega
 have f : ∀ x, a ≤ x → x < i - 1 → rot d a (a + 1) i x = d (x + 1) := fun x g1 g2 => by rw [rot_fst d g1 (by omega)]; congr 1; omega
 intro x y g1 g2 g3
 by_cases e1 : y < i - 1
 ·rw [f x g1 (by omega), f y (by omega) e1]; exact h.two _ _ (by omega) (by omega) (by omega)
 ·by_cases e2 : y = i - 1
  ·subst e2; rw [l, f x g1 g2]; exact hl _ (by omega) (by omega)
  ·rw [o y (by omega)]
   by_cases e3 : x < i - 1
   ·rw [f x g1 e3]; exact h.two _ _ (by omega) (by omega) g3
   ·by_cases e4 : x = i - 1
    ·subst e4; rw [l]; exact hr y (by omega) g3
    ·rw [o x (by omega)]; exact h.two _ _ (by omega) g2 g3
/-- The only one of the second run moves down into the first. -/
theorem Mok.dn {K : Nat → Int} {d : Nat → Nat} {a m i : Nat} (h : Mok K d a m (m + 1)) (h1 : a ≤ i) (h2 : i ≤ m) (hl : ∀ x, a ≤ x → x < i → Ro K (d x) (d m)) (hr : ∀ x, i ≤ x → x < m → Ro K (d m) (d x)) : Inc K (rot d i m (m + 1)) a (m + 1) := by
 have o : ∀ x, x < i → rot d i m (m + 1) x = d x := fun x hx => rot_out d (by omega) (by omega) (Or.inl hx)
 have l : rot d i m (m + 1) i = d m := by rw [rot_fst d (by omega) (by omega)]; congr 1; omega
 have f : ∀ x, i < x → x < m + 1 → rot d i m (m + 1) x = d (x - 1) := fun x g1 g2 => by rw [rot_snd d (by omega) (by omega)]; congr 1; omega
 intro x y g1 g2 g3
 by_cases e1 : y < i
 ·rw [o x (by omega), o y e1]; exact h.one _ _ g1 g2 (by omega)
 ·by_cases e2 : y = i
  ·subst e2; rw [l, o x g2]; exact hl _ g1 g2
  ·rw [f y (by omega) g3]
   by_cases e3 : x < i
   ·rw [o x e3]; exact h.one _ _ g1 (by omega) (by omega)
   ·by_cases e4 : x = i
    ·subst e4; rw [l]; exact hr _ (by omega) (by omega)
    ·rw [f x (by omega) (by omega)]; exact h.one _ _ (by omega) (by omega) (by omega)
/-- Where the search for the cut begins and ends. -/
structure Cutr (a m b lo hi : Nat) : Prop where
 low : a ≤ lo
 lh : lo ≤ hi
 him : hi ≤ m
 hid : hi ≤ (a + b) / 2
 nb : (a + b) / 2 + m ≤ lo + b
 first : lo = a ∨ (a + b) / 2 + m = lo + b
 last : hi = m ∨ hi = (a + b) / 2
theorem cutr_hi {a m b : Nat} (h2 : m < b) (h : (a + b) / 2 < m) : Cutr a m b ((a + b) / 2 + m - b) ((a + b) / 2) :=
 ⟨by omega, by omega, by omega, by omega, by omega, by omega, by omega⟩
theorem cutr_lo {a m b : Nat} (h1 : a < m) (h : ¬ (a + b) / 2 < m) : Cutr a m b a m :=
 ⟨by omega, by omega, by omega, by omega, by omega, by omega, by omega⟩
/-- The cut: what stands ahead of the middle is below what stands behind it. -/
theorem Mok.cut {K : Nat → Int} {d : Nat → Nat} {a m b lo hi s : Nat} (h : Mok K d a m b) (h1 : a < m) (hc : Cutr a m b lo hi) (s1 : lo ≤ s) (s2 : s ≤ hi)
  (hl : ∀ c, lo ≤ c → c < s → Ro K (d c) (d ((a + b) / 2 + m - 1 - c))) (hr : ∀ c, s ≤ c → c < hi → Ro K (d ((a + b) / 2 + m - 1 - c)) (d c)) :
  Mok K (rot d s m ((a + b) / 2 + m - s)) a s ((a + b) / 2) ∧ Mok K (rot d s m ((a + b) / 2 + m - s)) ((a + b) / 2) ((a + b) / 2 + m - s) b
   ∧ (∀ i j, a ≤ i → i < (a + b) / 2 → (a + b) / 2 ≤ j → j < b → Ro K (rot d s m ((a + b) / 2 + m - s) i) (rot d s m ((a + b) / 2 + m - s) j)) ∧ Frm d (rot d s m ((a + b) / 2 + m - s)) a b := by
 obtain ⟨c1, c2, c3, c4, c5, c6, c7⟩ := hc
 generalize hM : (a + b) / 2 = M at *
 generalize hE : M + m - s = E
 have k1 : m ≤ E := by omega
 have k2 : E ≤ b := by omega
 have k3 : s + (E - m) = M := by omega
 have f1 : ∀ x, x < s → rot d s m E x = d x := fun x hx => rot_out d k1 (by omega) (Or.inl hx)
 have f2 : ∀ x, s ≤ x → x < M → rot d s m E x = d (x - s + m) := fun x g1 g2 => rot_fst d g1 (by omega)
 have f3 : ∀ x, M ≤ x → x < E → rot d s m E x = d (x - (E - m)) := fun x g1 g2 => rot_snd d (by omega) g2
 have f4 : ∀ x, E ≤ x → rot d s m E x = d x := fun x hx => rot_out d k1 (by omega) (Or.inr hx)
 -- the four runs
 have A1 : ∀ x y, a ≤ x → x < s → E ≤ y → y < b → Ro K (d x) (d y) := by
  intro x y g1 g2 g3 g4
  have q : Ro K (d (s - 1)) (d E) := by
   have := hl (s - 1) (by omega) (by omega)
   rwa [show M + m - 1 - (s - 1) = E by omega] at this
  rcases h.one.le g1 (show x ≤ s - 1 by omega) (by omega) with e | e
  ·subst e
   rcases h.two.le k1 g3 g4 with e' | e'
   ·subst e'; exact q
   ·exact q.trans e'
  ·rcases h.two.le k1 g3 g4 with e' | e'
   ·subst e'; exact e.trans q
   ·exact (e.trans q).trans e'
 have A2 : ∀ x y, m ≤ x → x < E → s ≤ y → y < m → Ro K (d x) (d y) := by
  intro x y g1 g2 g3 g4
  have q : Ro K (d (E - 1)) (d s) := by
   have := hr s (by omega) (by omega)
   rwa [show M + m - 1 - s = E - 1 by omega] at this
  rcases h.two.le g1 (show x ≤ E - 1 by omega) (by omega) with e | e
  ·subst e
   rcases h.one.le (by omega) g3 g4 with e' | e'
   ·subst e'; exact q
   ·exact q.trans e'
  ·rcases h.one.le (by omega) g3 g4 with e' | e'
   ·subst e'; exact e.trans q
   ·exact (e.trans q).trans e'
 refine ⟨⟨?_, ?_, ?_⟩, ⟨?_, ?_, ?_⟩, ?_, (Frm.rot d (by omega) k1).wide (by omega) k2⟩
 ·intro i j x y z; rw [f1 i (by omega), f1 j z]; exact h.one i j x y (by omega)
 ·intro i j x y z; rw [f2 i x (by omega), f2 j (by omega) z]; exact h.two _ _ (by omega) (by omega) (by omega)
 ·intro i j x y z t; rw [f1 i y, f2 j z t]; exact h.lt _ _ x (by omega) (by omega) (by omega)
 ·intro i j x y z; rw [f3 i x (by omega), f3 j (by omega) z]; exact h.one _ _ (by omega) (by omega) (by omega)
 ·intro i j x y z; rw [f4 i x, f4 j (by omega)]; exact h.two _ _ (by omega) y z
 ·intro i j x y z t; rw [f3 i x y, f4 j z]; exact h.lt _ _ (by omega) (by omega) (by omega) t
 ·intro i j x y z t
  by_cases e1 : i < s
  ·rw [f1 i e1]
   by_cases e2 : j < E
   ·rw [f3 j z e2]; exact h.one _ _ x (by omega) (by omega)
   ·rw [f4 j (by omega)]; exact A1 i j x e1 (by omega) t
  ·rw [f2 i (by omega) y]
   by_cases e2 : j < E
   ·rw [f3 j z e2]; exact A2 _ _ (by omega) (by omega) (by omega) (by omega)
   ·rw [f4 j (by omega)]; exact h.two _ _ (by omega) (by omega) t
/-- What is asked at c holds at all below, or fails at all above. -/
theorem Mok.below {K : Nat → Int} {d : Nat → Nat} {a m b c x n : Nat} (h : Mok K d a m b) (ha : a ≤ x) (hx : x ≤ c) (hc : c < m) (hn : m + c ≤ n) (hb : n - x < b) (hq : Ro K (d c) (d (n - c))) : Ro K (d x) (d (n - x)) := by
 rcases h.one.le ha hx hc with e | e
 ·subst e; exact hq
 ·rcases h.two.le (show m ≤ n - c by omega) (show n - c ≤ n - x by omega) hb with e' | e'
  ·rw [← e']; exact e.trans hq
  ·exact (e.trans hq).trans e'
theorem Mok.above {K : Nat → Int} {d : Nat → Nat} {a m b c x n : Nat} (h : Mok K d a m b) (ha : a ≤ c) (hx : c ≤ x) (hc : x < m) (hn : m + x ≤ n) (hb : n - c < b) (hq : Ro K (d (n - c)) (d c)) : Ro K (d (n - x)) (d x) := by
 rcases h.one.le ha hx hc with e | e
 ·subst e; exact hq
 ·rcases h.two.le (show m ≤ n - x by omega) (show n - x ≤ n - c by omega) hb with e' | e'
  ·rw [e']; exact hq.trans e
  ·exact (e'.trans hq).trans e

/-- One element on its way down. -/
structure Ins (K : Nat → Int) (d cur : Nat → Nat) (a i j : Nat) : Prop where
 frm : Frm d cur a (i + 1)
 top : cur j = d i
 srt : ∀ p q, a ≤ p → p < q → q ≤ i → p ≠ j → q ≠ j → Ro K (cur p) (cur q)
 abv : ∀ q, j < q → q ≤ i → Ro K (cur j) (cur q)
 low : ∀ p, a ≤ p → p ≤ i → p ≠ j → cur p < d i
theorem Ins.start {K : Nat → Int} {d : Nat → Nat} {a i : Nat} (h : Inc K d a i) (g : ∀ p, a ≤ p → p < i → d p < d i) : Ins K d d a i i where
 frm := Frm.refl _ _ _
 top := rfl
 srt := fun p q h1 h2 _ _ h5 => h p q h1 h2 (by omega)
 abv := fun q h1 h2 => absurd h1 (by omega)
 low := fun p h1 h2 h3 => g p h1 (by omega)
theorem Ins.step {K : Nat → Int} {d cur : Nat → Nat} {a i j : Nat} (h : Ins K d cur a i (j + 1)) (hj : a ≤ j) (hi : j + 1 ≤ i) (hk : K (cur (j + 1)) < K (cur j)) : Ins K d (swp cur (j + 1) j) a i j := by
 have e1 : swp cur (j + 1) j (j + 1) = cur j := by unfold swp; rw [if_pos rfl]
 have e2 : swp cur (j + 1) j j = cur (j + 1) := by unfold swp; rw [if_neg (by omega), if_pos rfl]
 have e3 : ∀ x, x ≠ j + 1 → x ≠ j → swp cur (j + 1) j x = cur x := fun x h1 h2 => by unfold swp; rw [if_neg h1, if_neg h2]
 refine ⟨h.frm.trans (Frm.swp (by omega) (by omega) (by omega) (by omega)), by rw [e2]; exact h.top, ?_, ?_, ?_⟩
 ·intro p q h1 h2 h3 h4 h5
  by_cases f1 : p = j + 1
  ·subst f1; rw [e1, e3 q (by omega) h5]; exact h.srt j q hj (by omega) h3 (by omega) (by omega)
  ·by_cases f2 : q = j + 1
   ·subst f2; rw [e1, e3 p f1 h4]; exact h.srt p j h1 (by omega) (by omega) (by omega) (by omega)
   ·rw [e3 p f1 h4, e3 q f2 h5]; exact h.srt p q h1 h2 h3 f1 f2
 ·intro q h1 h2
  rw [e2]
  by_cases f2 : q = j + 1
  ·subst f2; rw [e1]; exact ro_gt hk
  ·rw [e3 q f2 (by omega)]; exact h.abv q (by omega) h2
 ·intro p h1 h2 h3
  by_cases f1 : p = j + 1
  ·subst f1; rw [e1]; exact h.low j hj (by omega) (by omega)
  ·rw [e3 p f1 h3]; exact h.low p h1 h2 f1
theorem Ins.done {K : Nat → Int} {d cur : Nat → Nat} {a i j : Nat} (h : Ins K d cur a i j) (hj : a ≤ j) (hi : j ≤ i) (hk : j = a ∨ ¬ K (cur j) < K (cur (j - 1))) : Inc K cur a (i + 1) := by
 have key : ∀ p, a ≤ p → p < j → Ro K (cur p) (cur j) := by
  intro p h1 h2
  rcases hk with e | e
  ·omega
  ·have q : Ro K (cur (j - 1)) (cur j) := ro_lt (by rw [h.top]; exact h.low (j - 1) (by omega) (by omega) (by omega)) e
   by_cases f : p = j - 1
   ·subst f; exact q
   ·exact (h.srt p (j - 1) h1 (by omega) (by omega) (by omega) (by omega)).trans q
 intro p q h1 h2 h3
 by_cases f1 : p = j
 ·subst f1; exact h.abv q h2 (by omega)
 ·by_cases f2 : q = j
  ·subst f2; exact key p h1 h2
  ·exact h.srt p q h1 h2 (by omega) f1 f2
/-- A sorted run of just its own numbers. -/
def Bk (K : Nat → Int) (d : Nat → Nat) (a b : Nat) : Prop := Inc K d a b ∧ ∀ i, a ≤ i → i < b → a ≤ d i ∧ d i < b
theorem Bk.nil (K : Nat → Int) (d : Nat → Nat) {a b : Nat} (h : b ≤ a) : Bk K d a b :=
 ⟨fun i j h1 h2 h3 => absurd h3 (by omega), fun i h1 h2 => absurd h2 (by omega)⟩
theorem Bk.of {K : Nat → Int} {d e : Nat → Nat} {a b x y : Nat} (h : Bk K d a b) (g : Frm d e x y) (hx : b ≤ x ∨ y ≤ a) : Bk K e a b :=
 ⟨h.1.of fun i h1 h2 => g.1 i (by omega), fun i h1 h2 => by rw [g.1 i (by omega)]; exact h.2 i h1 h2⟩
theorem Bk.mok {K : Nat → Int} {d : Nat → Nat} {a m b : Nat} (h : Bk K d a m) (g : Bk K d m b) : Mok K d a m b :=
 ⟨h.1, g.1, fun i j h1 h2 h3 h4 => by have := (h.2 i h1 h2).2; have := (g.2 j h3 h4).1; omega⟩
theorem Bk.merged {K : Nat → Int} {d e : Nat → Nat} {a m b : Nat} (h : Bk K d a m) (g : Bk K d m b) (h1 : a ≤ m) (h2 : m ≤ b) (f : Frm d e a b) (hi : Inc K e a b) : Bk K e a b := by
 refine ⟨hi, f.all (p := fun v => a ≤ v ∧ v < b) fun i x y => ?_⟩
 by_cases c : i < m
 ·have := h.2 i x c; omega
 ·have := g.2 i (by omega) y; omega
/-- The first pass: runs of twenty. -/
def Fst (K : Nat → Int) (d : Nat → Nat) (q : Nat) : Prop := (∀ k, k < q → Bk K d (20 * k) (20 * k + 20)) ∧ ∀ i, 20 * q ≤ i → d i = i
theorem Fst.asc {K : Nat → Int} {d : Nat → Nat} {q : Nat} (h : Fst K d q) : ∀ i j, 20 * q ≤ i → i < j → d i < d j := fun i j h1 h2 => by
 rw [h.2 i h1, h.2 j (by omega)]; exact h2
theorem Fst.bk {K : Nat → Int} {d e : Nat → Nat} {q b : Nat} (h : Fst K d q) (f : Frm d e (20 * q) b) (hi : Inc K e (20 * q) b) : Bk K e (20 * q) b :=
 ⟨hi, f.all (p := fun v => 20 * q ≤ v ∧ v < b) fun i x y => by rw [h.2 i x]; exact ⟨x, y⟩⟩
theorem Fst.step {K : Nat → Int} {d e : Nat → Nat} {q : Nat} (h : Fst K d q) (f : Frm d e (20 * q) (20 * q + 20)) (hi : Inc K e (20 * q) (20 * q + 20)) : Fst K e (q + 1) := by
 refine ⟨fun k hk => ?_, fun i hi' => by rw [f.1 i (by omega)]; exact h.2 i (by omega)⟩
 by_cases c : k < q
 ·exact (h.1 k c).of f (by omega)
 ·obtain rfl : k = q := by omega
  exact h.bk f hi
/-- All runs of a length. -/
def Lvl (K : Nat → Int) (d : Nat → Nat) (n s : Nat) : Prop := ∀ k, Bk K d (s * k) (min (s * k + s) n)
theorem Fst.lvl {K : Nat → Int} {d e : Nat → Nat} {q n : Nat} (h : Fst K d q) (h1 : 20 * q ≤ n) (h2 : n < 20 * q + 20) (f : Frm d e (20 * q) n) (hi : Inc K e (20 * q) n) : Lvl K e n 20 := by
 intro k
 by_cases c : k < q
 ·rw [Nat.min_eq_left (by omega)]; exact (h.1 k c).of f (by omega)
 ·by_cases c2 : k = q
  ·subst c2; rw [Nat.min_eq_right (by omega)]; exact h.bk f hi
  ·exact Bk.nil _ _ (by omega)
theorem Lvl.all {K : Nat → Int} {d : Nat → Nat} {n s : Nat} (h : Lvl K d n s) (hs : n ≤ s) : Bk K d 0 n := by
 have := h 0
 rwa [Nat.mul_zero, Nat.zero_add, Nat.min_eq_right hs] at this
/-- Of the runs of a length some are merged already, two by two. -/
def Mdl (K : Nat → Int) (d : Nat → Nat) (n s q : Nat) : Prop := (∀ k, k < q → Bk K d (2 * s * k) (min (2 * s * k + 2 * s) n)) ∧ ∀ k, 2 * q ≤ k → Bk K d (s * k) (min (s * k + s) n)
theorem Lvl.mdl {K : Nat → Int} {d : Nat → Nat} {n s : Nat} (h : Lvl K d n s) : Mdl K d n s 0 := ⟨fun k hk => absurd hk (by omega), fun k _ => h k⟩
theorem Mdl.one {K : Nat → Int} {d : Nat → Nat} {n s q a : Nat} (h : Mdl K d n s q) (ha : a = 2 * s * q) (hn : a + s ≤ n) : Bk K d a (a + s) := by
 have g := h.2 (2 * q) (by omega)
 have e : s * (2 * q) = a := by rw [ha, Nat.mul_left_comm, Nat.mul_assoc]
 rwa [e, Nat.min_eq_left hn] at g
theorem Mdl.two {K : Nat → Int} {d : Nat → Nat} {n s q a b : Nat} (h : Mdl K d n s q) (ha : a = 2 * s * q) (hb : b = min (a + 2 * s) n) : Bk K d (a + s) b := by
 have g := h.2 (2 * q + 1) (by omega)
 have e : s * (2 * q + 1) = a + s := by rw [Nat.mul_add, Nat.mul_one, ha, Nat.mul_left_comm, Nat.mul_assoc]
 rw [e, show a + s + s = a + 2 * s by omega, ← hb] at g
 exact g
theorem Mdl.step {K : Nat → Int} {d e : Nat → Nat} {n s q a b : Nat} (h : Mdl K d n s q) (ha : a = 2 * s * q) (hb : b = min (a + 2 * s) n) (hn : a + s ≤ n) (f : Frm d e a b) (hi : Inc K e a b) : Mdl K e n s (q + 1) := by
 refine ⟨fun k hk => ?_, fun k hk => ?_⟩
 ·by_cases c : k < q
  ·refine (h.1 k c).of f (Or.inl ?_)
   have : 2 * s * (k + 1) ≤ 2 * s * q := Nat.mul_le_mul_left _ c
   rw [Nat.mul_add, Nat.mul_one] at this
   omega
  ·obtain rfl : k = q := by omega
   rw [← ha, ← hb]
   exact (h.one ha hn).merged (h.two ha hb) (by omega) (by omega) f hi
 ·refine (h.2 k (by omega)).of f (Or.inr ?_)
  have : s * (2 * q + 2) ≤ s * k := Nat.mul_le_mul_left _ (by omega)
  have e1 : s * (2 * q + 2) = a + 2 * s := by rw [Nat.mul_add, ha, Nat.mul_left_comm, Nat.mul_assoc, Nat.mul_comm s 2]
  omega
theorem Mdl.lvl {K : Nat → Int} {d : Nat → Nat} {n s q a : Nat} (h : Mdl K d n s q) (ha : a = 2 * s * q) (hn : n ≤ a + s) : Lvl K d n (2 * s) := by
 intro k
 by_cases c : k < q
 ·exact h.1 k c
 ·by_cases c2 : k = q
  ·subst c2
   have g := h.2 (2 * k) (by omega)
   have e : s * (2 * k) = a := by rw [ha, Nat.mul_left_comm, Nat.mul_assoc]
   rw [e, Nat.min_eq_right hn] at g
   rw [← ha, Nat.min_eq_right (by omega)]
   exact g
  ·refine Bk.nil _ _ ?_
   have : 2 * s * (q + 1) ≤ 2 * s * k := Nat.mul_le_mul_left _ (by omega)
   rw [Nat.mul_add, Nat.mul_one] at this
   omega
theorem Mdl.last {K : Nat → Int} {d : Nat → Nat} {n s q a : Nat} (h : Mdl K d n s (q + 1)) (ha : a = 2 * s * q) (hn : n ≤ a + 2 * s) : Lvl K d n (2 * s) := by
 refine h.lvl (a := a + 2 * s) ?_ (by omega)
 rw [Nat.mul_add, Nat.mul_one, ha]
/-- As many numbers as places, none twice: all. -/
theorem onto_of : ∀ (n : Nat) (f : Nat → Nat), (∀ i, i < n → f i < n) → (∀ i j, i < n → j < n → f i = f j → i = j) → ∀ v, v < n → ∃ i, i < n ∧ f i = v := by
 intro n
 induction n with
 | zero => intro f _ _ v hv; omega
 | succ n ih =>
  intro f hf hi v hv
  have hu := hf n (by omega)
  have g1 : ∀ i, i < n → f i = n → f n < n := fun i h1 h2 => by
   rcases Nat.lt_or_ge (f n) n with h | h
   ·exact h
   ·have := hi i n (by omega) (by omega) (by omega); omega
  have h := ih (fun i => if f i = n then f n else f i)
   (fun i h1 => by
    show (if f i = n then f n else f i) < n
    by_cases c : f i = n
    ·rw [if_pos c]; exact g1 i h1 c
    ·rw [if_neg c]; have := hf i (by omega); omega)
   (fun i j h1 h2 h3 => by
    have h3 : (if f i = n then f n else f i) = (if f j = n then f n else f j) := h3
    by_cases c : f i = n
    ·by_cases c2 : f j = n
     ·exact hi i j (by omega) (by omega) (by omega)
     ·rw [if_pos c, if_neg c2] at h3; have := hi n j (by omega) (by omega) h3; omega
    ·by_cases c2 : f j = n
     ·rw [if_neg c, if_pos c2] at h3; have := hi i n (by omega) (by omega) h3; omega
     ·rw [if_neg c, if_neg c2] at h3; exact hi i j (by omega) (by omega) h3)
  by_cases c : v = f n
  ·exact ⟨n, by omega, c.symm⟩
  ·by_cases c2 : v = n
   ·obtain ⟨i, h1, h2⟩ := h (f n) (by omega)
    have h2 : (if f i = n then f n else f i) = f n := h2
    by_cases c3 : f i = n
    ·exact ⟨i, by omega, by omega⟩
    ·rw [if_neg c3] at h2; have := hi i n (by omega) (by omega) h2; omega
   ·obtain ⟨i, h1, h2⟩ := h v (by omega)
    have h2 : (if f i = n then f n else f i) = v := h2
    by_cases c3 : f i = n
    ·rw [if_pos c3] at h2; omega
    ·rw [if_neg c3] at h2; exact ⟨i, by omega, h2⟩
theorem Inc.inj {K : Nat → Int} {d : Nat → Nat} {n i j : Nat} (h : Inc K d 0 n) (h1 : i < n) (h2 : j < n) (e : d i = d j) : i = j := by
 rcases Nat.lt_trichotomy i j with c | c | c
 ·have := h i j (by omega) c h2; rw [e] at this; exact this.irr.elim
 ·exact c
 ·have := h j i (by omega) c h1; rw [e] at this; exact this.irr.elim
theorem Bk.onto {K : Nat → Int} {d : Nat → Nat} {n : Nat} (h : Bk K d 0 n) : ∀ v, v < n → ∃ i, i < n ∧ d i = v :=
 onto_of n d (fun i hi => (h.2 i (by omega) hi).2) fun _ _ h1 h2 e => h.1.inj h1 h2 e
/-- There is one order only. -/
theorem Bk.one {K : Nat → Int} {d e : Nat → Nat} {n : Nat} (h : Bk K d 0 n) (g : Bk K e 0 n) : ∀ i, i < n → d i = e i := by
 intro i
 induction i using Nat.strongRecOn with
 | ind i ih =>
  intro hi
  obtain ⟨j, j1, j2⟩ := g.onto (d i) (h.2 i (by omega) hi).2
  obtain ⟨k, k1, k2⟩ := h.onto (e i) (g.2 i (by omega) hi).2
  have a1 : i ≤ j := by
   rcases Nat.lt_or_ge j i with c | c
   ·have := ih j c j1; rw [j2] at this; have := h.1.inj j1 hi this; omega
   ·exact c
  have a2 : i ≤ k := by
   rcases Nat.lt_or_ge k i with c | c
   ·have := ih k c k1; rw [k2] at this; have := g.1.inj hi k1 this; omega
   ·exact c
  rcases Nat.lt_or_ge i j with c | c
  ·rcases Nat.lt_or_ge i k with c' | c'
   ·have r1 := g.1 i j (by omega) c j1
    have r2 := h.1 i k (by omega) c' k1
    rw [j2] at r1; rw [k2] at r2
    exact (r1.trans r2).irr.elim
   ·obtain rfl : k = i := by omega
    exact k2
  ·obtain rfl : j = i := by omega
   exact j2.symm
/-- There is a place for one number more. -/
theorem Bk.place {K : Nat → Int} {o : Nat → Nat} {i : Nat} (h : Bk K o 0 i) (v : Int) : ∃ l, l ≤ i ∧ (∀ x, x < l → ¬ v < K (o x)) ∧ ∀ x, l ≤ x → x < i → v < K (o x) := by
 have key : ∀ l, l ≤ i → (∀ x, l ≤ x → x < i → v < K (o x)) → ∃ l, l ≤ i ∧ (∀ x, x < l → ¬ v < K (o x)) ∧ ∀ x, l ≤ x → x < i → v < K (o x) := by
  intro l
  induction l with
  | zero => intro h1 h2; exact ⟨0, h1, fun x hx => absurd hx (by omega), h2⟩
  | succ l ih =>
   intro h1 h2
   by_cases c : v < K (o l)
   ·refine ih (by omega) fun x g1 g2 => ?_
    by_cases c2 : x = l
    ·subst c2; exact c
    ·exact h2 x (by omega) g2
   ·refine ⟨l + 1, h1, fun x hx => ?_, h2⟩
    by_cases c2 : x = l
    ·subst c2; exact c
    ·have := h.1 x l (by omega) (by omega) (by omega)
     unfold Ro at this; omega
 exact key i (Nat.le_refl _) fun x h1 h2 => absurd h2 (by omega)

end Go.Proofs.YtdlgehnoiaoneaaGreatDoor

namespace Go.Proofs.YtdlgehnoiaoneaaGreatDoor
open Go.RowKit Go.Maps

/-- A row of numbers, block B, that is being sorted; all else is as in W. -/
structure Sw (W : World) (B n : Nat) (d : Nat → Nat) (w : World) : Prop where
 row : w.rowIs B 2 n (fun i => .int .i64 ((d i : Nat) : Int))
 onl : Onl [B] W w
theorem Sw.bel {W w w' : World} {B n : Nat} {d : Nat → Nat} (h : Sw W B n d w) (hb : Bel w w') : Sw W B n d w' :=
 ⟨h.row.of_block (hb.out.block B h.row.lt), h.onl.bel hb⟩
theorem Sw.drew {W w : World} {B n : Nat} {d : Nat → Nat} (h : Sw W B n d w) : Sw W B n d w.drew := h.bel (Bel.drew (Bel.refl _))
theorem Sw.congr {W w : World} {B n : Nat} {d e : Nat → Nat} (h : Sw W B n d w) (he : ∀ i, i < n → d i = e i) : Sw W B n e w :=
 ⟨h.row.congr fun i hi => by rw [he i hi], h.onl⟩
theorem Sw.swp {W w : World} {B n : Nat} {d : Nat → Nat} (h : Sw W B n d w) {x y : Nat} (hxy : x ≠ y) :
  Sw W B n (swp d x y) ((w.setCell ⟨B, x, none⟩ (.int .i64 ((d y : Nat) : Int))).setCell ⟨B, y, none⟩ (.int .i64 ((d x : Nat) : Int))) := by
 refine ⟨((h.row.set x (.int .i64 ((d y : Nat) : Int))).set y (.int .i64 ((d x : Nat) : Int))).congr fun i _ => ?_, (h.onl.set (by simp) _ _).set (by simp) _ _⟩
 show (if i = y then _ else if i = x then _ else _) = _
 unfold Go.Proofs.YtdlgehnoiaoneaaGreatDoor.swp
 by_cases e1 : i = y
 ·rw [if_pos e1, if_neg (by omega), if_pos e1]
 ·rw [if_neg e1, if_neg e1]
  by_cases e2 : i = x
  ·rw [if_pos e2, if_pos e2]
  ·rw [if_neg e2, if_neg e2]

set_option maxRecDepth 100000 in
set_option maxHeartbeats 2000000 in
theorem swapRange_any (W : World) (B n c : Nat) (d : Nat → Nat) (f : Value) (a b m : Nat) (w : World) (hS : Sw W B n d w) (hab : a + m ≤ b) (hbn : b + m ≤ n) (hn : n ≤ 1048576) :
  Calls Tryz.prog 97 #[.slice (some ⟨B, 0, none⟩) n c, .int .i64 a, .int .i64 b, .int .i64 m, f] w fun e w' => e = .returned (.tuple #[]) ∧ Sw W B n (swr d a b m) w' := by
 go_enter Tryz.func97, Tryz.ntmps97
 go_wp2
 go_loopw [10] (fun i wr => ∃ k : Nat, k ≤ m ∧ i = .int .i64 k ∧ Sw W B n (swr d a b k) wr) (fun i _ => m - (intOf i).toNat)
 case atStart => exact ⟨0, Nat.zero_le _, rfl, by rw [swr_zero]; exact hS⟩
 case round =>
  clear hS
  obtain ⟨k, hk, rfl, hr⟩ := hrel
  by_cases hlt : k < m
  ·have hlt' : (k : Int) < (m : Int) := by omega
   have HS : Hid (swp (swr d a b k) (a + k) (b + k) = swr d a b (k + 1)) := swr_succ d a b k (by omega)
   obtain ⟨x, hx⟩ : ∃ x, a + k = x := ⟨_, rfl⟩
   obtain ⟨y, hy⟩ : ∃ y, b + k = y := ⟨_, rfl⟩
   have hwx : IntKind.i64.wrap ((a : Int) + (k : Int)) = (x : Int) := by rw [IntKind.wrap_i64]; omega
   have hwy : IntKind.i64.wrap ((b : Int) + (k : Int)) = (y : Int) := by rw [IntKind.wrap_i64]; omega
   rw [hx, hy] at HS
   have hxn : x < n := by omega
   have hyn : y < n := by omega
   have hxy : x ≠ y := by omega
   have HR : Hid (Sw W B n (swr d a b k) wr) := hr
   have cx := hr.row.cell hxn
   have cy := hr.row.cell hyn
   have fx := hr.row.frozen x
   have fy := hr.row.frozen y
   obtain ⟨u, Hu⟩ : ∃ u, Hid (swr d a b k x = u) := ⟨_, (rfl : swr d a b k x = _)⟩
   obtain ⟨v, Hv⟩ : ∃ u, Hid (swr d a b k y = u) := ⟨_, (rfl : swr d a b k y = _)⟩
   simp only [Hu.out, Hv.out] at cx cy
   have hB := hr.row.lt
   have hxn' : (x : Int) < (n : Int) := by omega
   have hyn' : (y : Int) < (n : Int) := by omega
   clear hx hy hr
   go_wp2
   go_big_region
   obtain ⟨V, HV⟩ : ∃ V : World, Hid (V = ((wr.setCell ⟨B, x, none⟩ (.int .i64 (v : Int))).setCell ⟨B, y, none⟩ (.int .i64 (u : Int))).drew) := ⟨_, (rfl : ((wr.setCell ⟨B, x, none⟩ (.int .i64 (v : Int))).setCell ⟨B, y, none⟩ (.int .i64 (u : Int))).drew = _)⟩
   have HN : Hid (Sw W B n (swr d a b (k + 1)) V) := by
    have := (HR.out.swp hxy).drew
    rw [HS.out, Hu.out, Hv.out] at this
    rw [HV.out]; exact this
   rw [← HV.out]
   clear cx cy fx fy hB
   go_wp2
   go_roundw
   case rel => exact ⟨k + 1, by omega, by go_num, HN.out⟩
   case measure => simp [intOf]; omega
  ·have e : k = m := by omega
   subst e
   go_wp2
   go_end0
   exact ⟨rfl, hr⟩

set_option maxRecDepth 100000 in
set_option maxHeartbeats 2000000 in
theorem rotate_any (W : World) (B n c : Nat) (d : Nat → Nat) (f : Value) (a m b : Nat) (w : World) (hS : Sw W B n d w) (ham : a < m) (hmb : m < b) (hbn : b ≤ n) (hn : n ≤ 1048576) :
  Calls Tryz.prog 88 #[.slice (some ⟨B, 0, none⟩) n c, .int .i64 a, .int .i64 m, .int .i64 b, f] w fun e w' => e = .returned (.tuple #[]) ∧ Sw W B n (rot d a m b) w' := by
 have hi0 : (m : Int) - (a : Int) = ((m - a : Nat) : Int) := by omega
 have hj0 : (b : Int) - (m : Int) = ((b - m : Nat) : Int) := by omega
 go_enter Tryz.func88, Tryz.ntmps88
 go_wp2
 go_loopw [10, 11] (fun p q wr => ∃ (i j : Nat) (e : Nat → Nat), p = .int .i64 i ∧ q = .int .i64 j ∧ 0 < i ∧ 0 < j ∧ a + i ≤ m ∧ m + j ≤ b ∧ rot e (m - i) m (m + j) = rot d a m b ∧ Sw W B n e wr) (fun p q _ => (intOf p).toNat + (intOf q).toNat)
 case atStart => exact ⟨m - a, b - m, d, by first | rfl | go_num, by first | rfl | go_num, by omega, by omega, by omega, by omega, by rw [show m - (m - a) = a by omega, show m + (b - m) = b by omega], hS⟩
 case round =>
  clear hS hi0 hj0
  obtain ⟨i, j, e, rfl, rfl, hi, hj, him, hjb, he, hr⟩ := hrel
  have HE : Hid (rot e (m - i) m (m + j) = rot d a m b) := he
  clear he
  by_cases hij : i = j
  ·subst hij
   have HQ : Hid (swr e (m - i) m i = rot e (m - i) m (m + i)) := rot_same e m i (by omega)
   obtain ⟨s, hs⟩ : ∃ s, m - i = s := ⟨_, rfl⟩
   have hsi : (m : Int) - (i : Int) = (s : Int) := by omega
   rw [hs] at HQ HE
   have h1 : s + i ≤ m := by omega
   go_wp2_with fail
   refine (swapRange_any W B n c e f s m i _ hr h1 (by omega) hn).mono ?_
   rintro _ w1 ⟨rfl, h1⟩
   rw [HQ.out, HE.out] at h1
   go_wp2
   go_end0
   exact ⟨rfl, h1⟩
  ·by_cases hgt : j < i
   ·have hij' : ¬ (i : Int) = (j : Int) := by omega
    have hgt' : (j : Int) < (i : Int) := by omega
    have HQ : Hid (rot (swr e (m - i) m j) (m - (i - j)) m (m + j) = rot e (m - i) m (m + j)) := rot_more e m i j (by omega) hgt hj
    obtain ⟨s, hs⟩ : ∃ s, m - i = s := ⟨_, rfl⟩
    have hsi : (m : Int) - (i : Int) = (s : Int) := by omega
    have hdi : (i : Int) - (j : Int) = ((i - j : Nat) : Int) := by omega
    rw [hs] at HQ HE
    go_wp2_with fail
    refine (swapRange_any W B n c e f s m j _ hr (by omega) (by omega) hn).mono ?_
    rintro _ w1 ⟨rfl, h1⟩
    go_wp2
    go_roundw
    case rel => exact ⟨i - j, j, _, by first | rfl | go_num, rfl, by omega, hj, by omega, hjb, by rw [HQ.out]; exact HE.out, h1⟩
    case measure => simp [intOf]; omega
   ·have hij' : ¬ (i : Int) = (j : Int) := by omega
    have hgt' : ¬ (j : Int) < (i : Int) := by omega
    have HQ : Hid (rot (swr e (m - i) (m + j - i) i) (m - i) m (m + (j - i)) = rot e (m - i) m (m + j)) := rot_less e m i j (by omega) (by omega) hi
    obtain ⟨s, hs⟩ : ∃ s, m - i = s := ⟨_, rfl⟩
    have hsi : (m : Int) - (i : Int) = (s : Int) := by omega
    obtain ⟨t, ht⟩ : ∃ t, m + j - i = t := ⟨_, rfl⟩
    have hti : (m : Int) + (j : Int) - (i : Int) = (t : Int) := by omega
    have hdi : (j : Int) - (i : Int) = ((j - i : Nat) : Int) := by omega
    rw [hs] at HQ HE
    rw [ht] at HQ
    go_wp2_with fail
    refine (swapRange_any W B n c e f s t i _ hr (by omega) (by omega) hn).mono ?_
    rintro _ w1 ⟨rfl, h1⟩
    go_wp2
    go_roundw
    case rel => exact ⟨i, j - i, _, rfl, by first | rfl | go_num, hi, by omega, him, by omega, by rw [hs, HQ.out]; exact HE.out, h1⟩
    case measure => simp [intOf]; omega
end Go.Proofs.YtdlgehnoiaoneaaGreatDoor

namespace Go.Proofs.YtdlgehnoiaoneaaGreatDoor
open Go.RowKit Go.Maps Go.Shelf

/-- How two keys compare. -/
def cmz (x y : Int) : Int := if x < y then -1 else if y < x then 1 else 0
theorem cmz_lt {x y : Int} (h : x < y) : cmz x y < 0 := by unfold cmz; rw [if_pos h]; decide
theorem cmz_ge {x y : Int} (h : ¬ x < y) : ¬ cmz x y < 0 := by unfold cmz; rw [if_neg h]; split <;> decide
/-- What is asked of the function value: it compares the keys of two numbers and writes nothing. -/
def CmpK (W : World) (B n : Nat) (K : Nat → Int) (g : Nat) (p : Value) : Prop := ∀ (d : Nat → Nat) (w : World), Sw W B n d w → ∀ x y : Nat, x < n → y < n →
 Calls Tryz.prog g #[.int .i64 x, .int .i64 y, p] w fun e w' => e = .returned (.int .i64 (cmz (K x) (K y))) ∧ Bel w w'
theorem Frm.vals {d e : Nat → Nat} {a b n : Nat} (h : Frm d e a b) (hv : ∀ i, i < n → d i < n) (hb : b ≤ n) : ∀ i, i < n → e i < n := by
 intro i hi
 by_cases c : a ≤ i ∧ i < b
 ·obtain ⟨j, _, j2, j3⟩ := h.2 i c.1 c.2
  rw [j3]; exact hv j (by omega)
 ·rw [h.1 i (by omega)]; exact hv i hi

set_option maxRecDepth 100000 in
set_option maxHeartbeats 4000000 in
theorem insSort_any (W : World) (B n c : Nat) (K : Nat → Int) (g : Nat) (p : Value) (eg : ∀ args w, (callFunc g args).run Tryz.prog w = .ok (.enter g args) w) (hC : CmpK W B n K g p) (d : Nat → Nat) (a b : Nat) (w : World)
  (hS : Sw W B n d w) (hab : a ≤ b) (hbn : b ≤ n) (hn : n ≤ 1048576) (hasc : ∀ i j, a ≤ i → i < j → j < b → d i < d j) (hv : ∀ i, i < n → d i < n) :
  Calls Tryz.prog 75 #[.slice (some ⟨B, 0, none⟩) n c, .int .i64 a, .int .i64 b, .func (.func g) #[] #[p]] w fun e w' => e = .returned (.tuple #[]) ∧ ∃ d', Sw W B n d' w' ∧ Frm d d' a b ∧ Inc K d' a b := by
 have HA : Hid (∀ i j, a ≤ i → i < j → j < b → d i < d j) := hasc
 have HV : Hid (∀ i, i < n → d i < n) := hv
 have HC : Hid (CmpK W B n K g p) := hC
 clear hasc hv hC
 go_enter Tryz.func75, Tryz.ntmps75
 go_wp2
 go_loopw [8] (fun v wr => ∃ (i : Nat) (cur : Nat → Nat), v = .int .i64 i ∧ a < i ∧ i ≤ b + 1 ∧ Sw W B n cur wr ∧ ((i ≤ b ∧ Frm d cur a i ∧ Inc K cur a i) ∨ (b = a ∧ i = a + 1 ∧ cur = d))) (fun v _ => b + 1 - (intOf v).toNat)
 case atStart =>
  refine ⟨a + 1, d, by go_num, by omega, by omega, hS, ?_⟩
  by_cases h : a < b
  ·exact .inl ⟨by omega, Frm.refl _ _ _, fun i j h1 h2 h3 => absurd h3 (by omega)⟩
  ·exact .inr ⟨by omega, rfl, rfl⟩
 case round =>
  clear hS
  obtain ⟨i, cur, rfl, hai, hib, hr, hcur⟩ := hrel
  have HCU : Hid ((i ≤ b ∧ Frm d cur a i ∧ Inc K cur a i) ∨ (b = a ∧ i = a + 1 ∧ cur = d)) := hcur
  clear hcur
  by_cases hlt : i < b
  ·have hlt' : (i : Int) < (b : Int) := by omega
   have hF : Hid (Frm d cur a i ∧ Inc K cur a i) := by
    rcases HCU.out with h | h
    ·exact h.2
    ·omega
   have HI0 : Ins K cur cur a i i := Ins.start hF.out.2 fun q h1 h2 => by
    obtain ⟨j, j1, j2, j3⟩ := hF.out.1.2 q h1 h2
    rw [j3, hF.out.1.1 i (by omega)]
    exact HA.out j i j1 j2 hlt
   go_wp2
   obtain ⟨wo, ho⟩ : ∃ V : World, V = wr := ⟨wr, rfl⟩
   subst ho
   go_loopw [9] (fun v wr => ∃ (j : Nat) (e : Nat → Nat), v = .int .i64 j ∧ a ≤ j ∧ j ≤ i ∧ Ins K cur e a i j ∧ Sw W B n e wr) (fun v _ => (intOf v).toNat)
   case atStart => exact ⟨i, cur, rfl, by omega, Nat.le_refl _, HI0, hr⟩
   case round =>
    clear HI0 hr
    obtain ⟨j, e, rfl, haj, hji, hI, hr⟩ := hrel
    have HI : Hid (Ins K cur e a i j) := hI
    have HD : Hid ((j = a ∨ K (e (j - 1)) ≤ K (e j)) → Frm d e a (i + 1) ∧ Inc K e a (i + 1)) := fun hq =>
     ⟨(hF.out.1.wide (Nat.le_refl _) (Nat.le_succ _)).trans hI.frm, hI.done haj hji (hq.imp id fun h => by omega)⟩
    have HVe : Hid (∀ q, q < n → e q < n) := ((hF.out.1.wide (Nat.le_refl _) (Nat.le_succ _)).trans hI.frm).vals HV.out (by omega)
    clear hI
    by_cases hja : a < j
    ·obtain ⟨jp, rfl⟩ : ∃ jp, j = jp + 1 := ⟨j - 1, by omega⟩
     have hjn : jp + 1 < n := by omega
     have hpn : jp < n := by omega
     obtain ⟨j1, hj1⟩ : ∃ j1, j1 = jp + 1 := ⟨_, rfl⟩
     have HJ : Hid (j1 = jp + 1) := hj1
     rw [← hj1] at HI HD hjn hja
     have hcast : ((jp + 1 : Nat) : Int) = (j1 : Int) := by omega
     rw [hcast]
     have hwp : IntKind.i64.wrap ((j1 : Int) - 1) = (jp : Int) := by rw [IntKind.wrap_i64]; omega
     have hx : e j1 < n := HVe.out _ hjn
     have hy : e jp < n := HVe.out _ hpn
     obtain ⟨x, Hx⟩ : ∃ x, Hid (e j1 = x) := ⟨_, (rfl : e j1 = _)⟩
     obtain ⟨y, Hy⟩ : ∃ x, Hid (e jp = x) := ⟨_, (rfl : e jp = _)⟩
     rw [Hx.out] at hx
     rw [Hy.out] at hy
     have hR : ∀ w', Sw W B n e w' → w'.cell? ⟨B, j1, none⟩ = some (.int .i64 (x : Int)) ∧ w'.cell? ⟨B, jp, none⟩ = some (.int .i64 (y : Int)) := fun w' h => ⟨by rw [h.row.cell hjn, Hx.out], by rw [h.row.cell hpn, Hy.out]⟩
     have hja' : (a : Int) < (j1 : Int) := by omega
     have hgd : decide ((j1 : Int) > (a : Int)) = true := decide_eq_true hja'
     have hjn' : (j1 : Int) < (n : Int) := by omega
     have hpn' : (jp : Int) < (n : Int) := by omega
     clear hj1 hcast
     by_cases hK : K x < K y
     ·have hz : cmz (K x) (K y) < 0 := cmz_lt hK
      obtain ⟨z, Hz⟩ : ∃ z, Hid (cmz (K x) (K y) = z) := ⟨_, (rfl : cmz (K x) (K y) = _)⟩
      rw [Hz.out] at hz
      go_wp2
      go_region_held3 (fun w' => Sw W B n e w') (with_reducible (repeat (first | exact hr | refine Sw.drew ?_ | assumption)))
       (first
        | (go_at_fn g; refine (HC.out e _ (by assumption) x y hx hy).mono ?_; rintro _ w4 ⟨rfl, hb4⟩; rw [Hz.out]; refine (fun hq : Sw W B n e w4 => ?_) (Sw.bel (by assumption) hb4)))
      have HQ : Hid (Sw W B n e w4) := hq
      have cx := (hR _ hq).1
      have cy := (hR _ hq).2
      have fx := hq.row.frozen j1
      have fy := hq.row.frozen jp
      have hB := hq.row.lt
      have hne : j1 ≠ jp := by have := HJ.out; omega
      have hne' : jp ≠ j1 := by have := HJ.out; omega
      clear hR hr hb4 hq
      go_wp2
      go_big_region
      obtain ⟨V, HV'⟩ : ∃ V : World, Hid (V = ((w4.setCell ⟨B, j1, none⟩ (.int .i64 (y : Int))).setCell ⟨B, jp, none⟩ (.int .i64 (x : Int))).drew) := ⟨_, (rfl : ((w4.setCell ⟨B, j1, none⟩ (.int .i64 (y : Int))).setCell ⟨B, jp, none⟩ (.int .i64 (x : Int))).drew = _)⟩
      have HN : Hid (Sw W B n (swp e j1 jp) V) := by
       have := (HQ.out.swp (show j1 ≠ jp by have := HJ.out; omega)).drew
       rw [Hx.out, Hy.out] at this
       rw [HV'.out]; exact this
      have HI2 : Hid (Ins K cur (swp e j1 jp) a i jp) := by
       have h := HI.out
       rw [HJ.out] at h ⊢
       exact h.step (by have := HJ.out; omega) hji (by rw [← HJ.out, Hx.out, Hy.out]; exact hK)
      rw [← HV'.out]
      clear cx cy fx fy hB
      go_wp2
      go_roundw
      case rel => exact ⟨jp, _, by first | rfl | go_num | (congr 1; have := HJ.out; omega), by have := HJ.out; omega, by omega, HI2.out, HN.out⟩
      case measure => have := HJ.out; simp [intOf]; omega
     ·have hz : ¬ cmz (K x) (K y) < 0 := cmz_ge hK
      obtain ⟨z, Hz⟩ : ∃ z, Hid (cmz (K x) (K y) = z) := ⟨_, (rfl : cmz (K x) (K y) = _)⟩
      rw [Hz.out] at hz
      have HD2 : Hid (Frm d e a (i + 1) ∧ Inc K e a (i + 1)) := HD.out (Or.inr (by rw [show j1 - 1 = jp by have := HJ.out; omega, Hx.out, Hy.out]; omega))
      go_wp2
      go_region_held3 (fun w' => Sw W B n e w') (with_reducible (repeat (first | exact hr | refine Sw.drew ?_ | assumption)))
       (first
        | (go_at_fn g; refine (HC.out e _ (by assumption) x y hx hy).mono ?_; rintro _ w4 ⟨rfl, hb4⟩; rw [Hz.out]; refine (fun hq : Sw W B n e w4 => ?_) (Sw.bel (by assumption) hb4)))
      have HQ : Hid (Sw W B n e w4) := hq
      clear hR hr hb4 hq
      go_wp2
      go_roundw
      case rel => exact ⟨i + 1, e, by go_num, by omega, by omega, HQ.out, .inl ⟨by omega, HD2.out.1, HD2.out.2⟩⟩
      case measure => simp [intOf]; omega
    ·have hja' : ¬ (a : Int) < (j : Int) := by omega
     have hgd : decide ((j : Int) > (a : Int)) = false := decide_eq_false hja'
     have HD2 : Hid (Frm d e a (i + 1) ∧ Inc K e a (i + 1)) := HD.out (Or.inl (by omega))
     have HQ : Hid (Sw W B n e wr.drew) := hr.drew
     clear hr
     go_wp2
     go_big_region
     go_wp2
     go_roundw
     case rel => exact ⟨i + 1, e, by go_num, by omega, by omega, HQ.out, .inl ⟨by omega, HD2.out.1, HD2.out.2⟩⟩
     case measure => simp [intOf]; omega
  ·have hlt' : ¬ (i : Int) < (b : Int) := by omega
   have HO : Hid (∃ d', Sw W B n d' wr ∧ Frm d d' a b ∧ Inc K d' a b) := by
    rcases HCU.out with ⟨h1, h2, h3⟩ | ⟨h1, h2, h3⟩
    ·obtain rfl : i = b := by omega
     exact ⟨cur, hr, h2, h3⟩
    ·subst h3
     exact ⟨cur, hr, Frm.refl _ _ _, fun i j h1 h2 h3 => absurd h3 (by omega)⟩
   clear hr
   go_wp2
   go_end0
   exact ⟨rfl, HO.out⟩
end Go.Proofs.YtdlgehnoiaoneaaGreatDoor

namespace Go.Proofs.YtdlgehnoiaoneaaGreatDoor
open Go.RowKit Go.Maps Go.Shelf

set_option maxRecDepth 100000 in
set_option maxHeartbeats 4000000 in
theorem symUp_any (W : World) (B n c : Nat) (K : Nat → Int) (g : Nat) (p : Value) (eg : ∀ args w, (callFunc g args).run Tryz.prog w = .ok (.enter g args) w) (hC : CmpK W B n K g p) (d : Nat → Nat) (a b : Nat) (w : World)
  (hS : Sw W B n d w) (hab : a + 1 < b) (hbn : b ≤ n) (hn : n ≤ 1048576) (hM : Mok K d a (a + 1) b) (hv : ∀ i, i < n → d i < n) :
  Calls Tryz.prog 76 #[.slice (some ⟨B, 0, none⟩) n c, .int .i64 a, .int .i64 ((a + 1 : Nat) : Int), .int .i64 b, .func (.func g) #[] #[p]] w fun e w' => e = .returned (.tuple #[]) ∧ ∃ d', Sw W B n d' w' ∧ Frm d d' a b ∧ Inc K d' a b := by
 have HM : Hid (Mok K d a (a + 1) b) := hM
 have HV : Hid (∀ i, i < n → d i < n) := hv
 have HC : Hid (CmpK W B n K g p) := hC
 obtain ⟨m, hm⟩ : ∃ m, a + 1 = m := ⟨_, rfl⟩
 have hm1 : (m : Int) - (a : Int) = 1 := by omega
 have HE : Hid (a + 1 = m) := hm
 rw [hm] at hab ⊢
 have han : a < n := by omega
 obtain ⟨y, Hy⟩ : ∃ x, Hid (d a = x) := ⟨_, (rfl : d a = _)⟩
 have hy : y < n := by rw [← Hy.out]; exact HV.out a han
 have ham : a < m := by omega
 clear hM hv hC hm
 go_enter Tryz.func76, Tryz.ntmps76
 go_wp2
 go_loopw [10, 11, 12] (fun u v _ wr => ∃ i j : Nat, u = .int .i64 i ∧ v = .int .i64 j ∧ m ≤ i ∧ i ≤ j ∧ j ≤ b ∧ (∀ x, a + 1 ≤ x → x < i → Ro K (d x) (d a)) ∧ (∀ x, j ≤ x → x < b → Ro K (d a) (d x)) ∧ Sw W B n d wr) (fun u v _ _ => (intOf v).toNat - (intOf u).toNat)
 case atStart => exact ⟨m, b, rfl, rfl, Nat.le_refl _, by omega, Nat.le_refl _, fun x h1 h2 => absurd h2 (by have := HE.out; omega), fun x h1 h2 => absurd h2 (by omega), hS⟩
 case round =>
  clear hS
  obtain ⟨i, j, rfl, rfl, hmi, hij, hjb, hlo, hhi, hr⟩ := hrel
  have HLO : Hid (∀ x, a + 1 ≤ x → x < i → Ro K (d x) (d a)) := hlo
  have HHI : Hid (∀ x, j ≤ x → x < b → Ro K (d a) (d x)) := hhi
  clear hlo hhi
  by_cases hlt : i < j
  ·have hlt' : (i : Int) < (j : Int) := by omega
   obtain ⟨h, hh⟩ : ∃ h : Nat, ((i : Int) + (j : Int)) / 2 = h := ⟨(i + j) / 2, by omega⟩
   have h1 : i ≤ h := by omega
   have h2 : h < j := by omega
   have hhn : h < n := by omega
   obtain ⟨x, Hx⟩ : ∃ x, Hid (d h = x) := ⟨_, (rfl : d h = _)⟩
   have hx : x < n := by rw [← Hx.out]; exact HV.out h hhn
   have HL : Hid (y < x) := by
    show y < x
    rw [← Hx.out, ← Hy.out]; exact HM.out.lt a h (Nat.le_refl _) (Nat.lt_succ_self _) (by have := HE.out; omega) (by omega)
   have hR : ∀ w', Sw W B n d w' → w'.cell? ⟨B, h, none⟩ = some (.int .i64 (x : Int)) ∧ w'.cell? ⟨B, a, none⟩ = some (.int .i64 (y : Int)) := fun w' hq => ⟨by rw [hq.row.cell hhn, Hx.out], by rw [hq.row.cell han, Hy.out]⟩
   have hhn' : (h : Int) < (n : Int) := by omega
   have han' : (a : Int) < (n : Int) := by omega
   by_cases hK : K x < K y
   ·have hz : cmz (K x) (K y) < 0 := cmz_lt hK
    obtain ⟨z, Hz⟩ : ∃ z, Hid (cmz (K x) (K y) = z) := ⟨_, (rfl : cmz (K x) (K y) = _)⟩
    rw [Hz.out] at hz
    have HN : Hid (∀ x, a + 1 ≤ x → x < h + 1 → Ro K (d x) (d a)) := fun q h3 h4 => by
     have hro : Ro K (d h) (d a) := by rw [Hx.out, Hy.out]; exact ro_gt hK
     rcases HM.out.two.le h3 (show q ≤ h by omega) (by omega) with e | e
     ·subst e; exact hro
     ·exact e.trans hro
    go_wp2
    go_region_held3 (fun w' => Sw W B n d w') (with_reducible (repeat (first | exact hr | refine Sw.drew ?_ | assumption)))
     (first
      | (go_at_fn g; refine (HC.out d _ (by assumption) x y hx hy).mono ?_; rintro _ w4 ⟨rfl, hb4⟩; rw [Hz.out]; refine (fun hq : Sw W B n d w4 => ?_) (Sw.bel (by assumption) hb4)))
    have HQ : Hid (Sw W B n d w4) := hq
    clear hR hr hb4 hq
    go_wp2
    go_roundw
    case rel => exact ⟨h + 1, j, by go_num, rfl, by omega, by omega, hjb, HN.out, HHI.out, HQ.out⟩
    case measure => simp [intOf]; omega
   ·have hz : ¬ cmz (K x) (K y) < 0 := cmz_ge hK
    obtain ⟨z, Hz⟩ : ∃ z, Hid (cmz (K x) (K y) = z) := ⟨_, (rfl : cmz (K x) (K y) = _)⟩
    rw [Hz.out] at hz
    have HN : Hid (∀ x, h ≤ x → x < b → Ro K (d a) (d x)) := fun q h3 h4 => by
     have hro : Ro K (d a) (d h) := by rw [Hx.out, Hy.out]; exact ro_lt HL.out hK
     rcases HM.out.two.le (show a + 1 ≤ h by have := HE.out; omega) h3 h4 with e | e
     ·subst e; exact hro
     ·exact hro.trans e
    go_wp2
    go_region_held3 (fun w' => Sw W B n d w') (with_reducible (repeat (first | exact hr | refine Sw.drew ?_ | assumption)))
     (first
      | (go_at_fn g; refine (HC.out d _ (by assumption) x y hx hy).mono ?_; rintro _ w4 ⟨rfl, hb4⟩; rw [Hz.out]; refine (fun hq : Sw W B n d w4 => ?_) (Sw.bel (by assumption) hb4)))
    have HQ : Hid (Sw W B n d w4) := hq
    clear hR hr hb4 hq
    go_wp2
    go_roundw
    case rel => exact ⟨i, h, rfl, rfl, hmi, h1, by omega, HLO.out, HN.out, HQ.out⟩
    case measure => simp [intOf]; omega
  ·obtain rfl : i = j := by omega
   have hlt' : ¬ (i : Int) < (i : Int) := by omega
   have HO : Hid (Frm d (rot d a (a + 1) i) a b ∧ Inc K (rot d a (a + 1) i) a b) := ⟨(Frm.rot d (Nat.le_succ _) (by have := HE.out; omega)).wide (Nat.le_refl _) hjb, HM.out.up (by have := HE.out; omega) hjb HLO.out HHI.out⟩
   obtain ⟨ip, rfl⟩ : ∃ ip, i = ip + 1 := ⟨i - 1, by omega⟩
   go_wp2
   obtain ⟨wo, ho⟩ : ∃ V : World, V = wr := ⟨wr, rfl⟩
   subst ho
   go_loopw [13] (fun v wr => ∃ k : Nat, v = .int .i64 k ∧ a ≤ k ∧ k ≤ ip ∧ Sw W B n (rot d a (a + 1) (k + 1)) wr) (fun v _ => ip - (intOf v).toNat)
   case atStart => exact ⟨a, rfl, Nat.le_refl _, by omega, by rw [rot_b]; exact hr⟩
   case round =>
    clear hr
    obtain ⟨k, rfl, hak, hki, hr⟩ := hrel
    by_cases hkl : k < ip
    ·have hkl' : (k : Int) < (ip : Int) := by omega
     have HS : Hid (swp (rot d a (a + 1) (k + 1)) k (k + 1) = rot d a (a + 1) (k + 1 + 1)) := rot_up d a k hak
     obtain ⟨e, He⟩ : ∃ e, Hid (rot d a (a + 1) (k + 1) = e) := ⟨_, (rfl : rot d a (a + 1) (k + 1) = _)⟩
     rw [He.out] at HS hr
     obtain ⟨k1, hk1⟩ : ∃ k1, k1 = k + 1 := ⟨_, rfl⟩
     have HK1 : Hid (k1 = k + 1) := hk1
     rw [← hk1] at HS
     have hwk : IntKind.i64.wrap ((k : Int) + 1) = (k1 : Int) := by rw [IntKind.wrap_i64]; omega
     have hkn : k < n := by omega
     have hk1n : k1 < n := by omega
     have HR : Hid (Sw W B n e wr) := hr
     have cx := hr.row.cell hkn
     have cy := hr.row.cell hk1n
     obtain ⟨x, Hx⟩ : ∃ x, Hid (e k = x) := ⟨_, (rfl : e k = _)⟩
     obtain ⟨z, Hz⟩ : ∃ x, Hid (e k1 = x) := ⟨_, (rfl : e k1 = _)⟩
     simp only [Hx.out, Hz.out] at cx cy
     have fx := hr.row.frozen k
     have fy := hr.row.frozen k1
     have hB := hr.row.lt
     have hne : k ≠ k1 := by omega
     have hne' : k1 ≠ k := by omega
     have hkn' : (k : Int) < (n : Int) := by omega
     have hk1n' : (k1 : Int) < (n : Int) := by omega
     clear hk1 hr
     go_wp2
     go_big_region
     obtain ⟨V, HV'⟩ : ∃ V : World, Hid (V = ((wr.setCell ⟨B, k, none⟩ (.int .i64 (z : Int))).setCell ⟨B, k1, none⟩ (.int .i64 (x : Int))).drew) := ⟨_, (rfl : ((wr.setCell ⟨B, k, none⟩ (.int .i64 (z : Int))).setCell ⟨B, k1, none⟩ (.int .i64 (x : Int))).drew = _)⟩
     have HN : Hid (Sw W B n (rot d a (a + 1) (k1 + 1)) V) := by
      have := (HR.out.swp hne).drew
      rw [HS.out, Hx.out, Hz.out, HK1.out] at this
      rw [HV'.out, HK1.out]; exact this
     rw [← HV'.out]
     clear cx cy fx fy hB
     go_wp2
     go_roundw
     case rel => exact ⟨k1, rfl, by have := HK1.out; omega, by have := HK1.out; omega, HN.out⟩
     case measure => have := HK1.out; simp [intOf]; omega
    ·obtain rfl : k = ip := by omega
     have hkl' : ¬ (k : Int) < (k : Int) := by omega
     go_wp2
     (try simp only [Exit.inBlock, Exit.then]); refine bodyPost_ret (results_none rfl _ _ _) rfl ?_
     exact ⟨rfl, _, hr, HO.out.1, HO.out.2⟩

set_option maxRecDepth 100000 in
set_option maxHeartbeats 4000000 in
theorem symDn_any (W : World) (B n c : Nat) (K : Nat → Int) (g : Nat) (p : Value) (eg : ∀ args w, (callFunc g args).run Tryz.prog w = .ok (.enter g args) w) (hC : CmpK W B n K g p) (d : Nat → Nat) (a m : Nat) (w : World)
  (hS : Sw W B n d w) (ham : a + 1 < m) (hbn : m + 1 ≤ n) (hn : n ≤ 1048576) (hM : Mok K d a m (m + 1)) (hv : ∀ i, i < n → d i < n) :
  Calls Tryz.prog 76 #[.slice (some ⟨B, 0, none⟩) n c, .int .i64 a, .int .i64 m, .int .i64 ((m + 1 : Nat) : Int), .func (.func g) #[] #[p]] w fun e w' => e = .returned (.tuple #[]) ∧ ∃ d', Sw W B n d' w' ∧ Frm d d' a (m + 1) ∧ Inc K d' a (m + 1) := by
 have HM : Hid (Mok K d a m (m + 1)) := hM
 have HV : Hid (∀ i, i < n → d i < n) := hv
 have HC : Hid (CmpK W B n K g p) := hC
 obtain ⟨b, hb⟩ : ∃ b, m + 1 = b := ⟨_, rfl⟩
 have hb1 : (b : Int) - (m : Int) = 1 := by omega
 have hm1 : ¬ (m : Int) - (a : Int) = 1 := by omega
 have hm1b : ((m : Int) - (a : Int) == 1) = false := by simpa using hm1
 have HE : Hid (m + 1 = b) := hb
 have hmn : m < n := by omega
 obtain ⟨y, Hy⟩ : ∃ x, Hid (d m = x) := ⟨_, (rfl : d m = _)⟩
 have hy : y < n := by rw [← Hy.out]; exact HV.out m hmn
 rw [hb]
 clear hM hv hC hb
 go_enter Tryz.func76, Tryz.ntmps76
 go_wp2
 go_loopw [14, 15, 16] (fun u v _ wr => ∃ i j : Nat, u = .int .i64 i ∧ v = .int .i64 j ∧ a ≤ i ∧ i ≤ j ∧ j ≤ m ∧ (∀ x, a ≤ x → x < i → Ro K (d x) (d m)) ∧ (∀ x, j ≤ x → x < m → Ro K (d m) (d x)) ∧ Sw W B n d wr) (fun u v _ _ => (intOf v).toNat - (intOf u).toNat)
 case atStart => exact ⟨a, m, rfl, rfl, Nat.le_refl _, by omega, Nat.le_refl _, fun x h1 h2 => absurd h2 (by omega), fun x h1 h2 => absurd h2 (by omega), hS⟩
 case round =>
  clear hS
  obtain ⟨i, j, rfl, rfl, hmi, hij, hjb, hlo, hhi, hr⟩ := hrel
  have HLO : Hid (∀ x, a ≤ x → x < i → Ro K (d x) (d m)) := hlo
  have HHI : Hid (∀ x, j ≤ x → x < m → Ro K (d m) (d x)) := hhi
  clear hlo hhi
  by_cases hlt : i < j
  ·have hlt' : (i : Int) < (j : Int) := by omega
   obtain ⟨h, hh⟩ : ∃ h : Nat, ((i : Int) + (j : Int)) / 2 = h := ⟨(i + j) / 2, by omega⟩
   have h1 : i ≤ h := by omega
   have h2 : h < j := by omega
   have hhn : h < n := by omega
   obtain ⟨x, Hx⟩ : ∃ x, Hid (d h = x) := ⟨_, (rfl : d h = _)⟩
   have hx : x < n := by rw [← Hx.out]; exact HV.out h hhn
   have HL : Hid (x < y) := by
    show x < y
    rw [← Hx.out, ← Hy.out]; exact HM.out.lt h m (by omega) (by omega) (Nat.le_refl _) (Nat.lt_succ_self _)
   have hR : ∀ w', Sw W B n d w' → w'.cell? ⟨B, m, none⟩ = some (.int .i64 (y : Int)) ∧ w'.cell? ⟨B, h, none⟩ = some (.int .i64 (x : Int)) := fun w' hq => ⟨by rw [hq.row.cell hmn, Hy.out], by rw [hq.row.cell hhn, Hx.out]⟩
   have hhn' : (h : Int) < (n : Int) := by omega
   have hmn' : (m : Int) < (n : Int) := by omega
   by_cases hK : K y < K x
   ·have hz : decide (cmz (K y) (K x) < 0) = true := decide_eq_true (cmz_lt hK)
    obtain ⟨z, Hz⟩ : ∃ z, Hid (cmz (K y) (K x) = z) := ⟨_, (rfl : cmz (K y) (K x) = _)⟩
    rw [Hz.out] at hz
    have hz1 : z < 0 := of_decide_eq_true hz
    have HN : Hid (∀ x, h ≤ x → x < m → Ro K (d m) (d x)) := fun q h3 h4 => by
     have hro : Ro K (d m) (d h) := by rw [Hx.out, Hy.out]; exact ro_gt hK
     rcases HM.out.one.le (show a ≤ h by omega) h3 h4 with e | e
     ·subst e; exact hro
     ·exact hro.trans e
    go_wp2
    go_region_held3 (fun w' => Sw W B n d w') (with_reducible (repeat (first | exact hr | refine Sw.drew ?_ | assumption)))
     (first
      | (go_at_fn g; refine (HC.out d _ (by assumption) y x hy hx).mono ?_; rintro _ w4 ⟨rfl, hb4⟩; rw [Hz.out]; refine (fun hq : Sw W B n d w4 => ?_) (Sw.bel (by assumption) hb4)))
    have HQ : Hid (Sw W B n d w4) := hq
    clear hR hr hb4 hq
    go_wp2
    go_roundw
    case rel => exact ⟨i, h, rfl, rfl, hmi, h1, by omega, HLO.out, HN.out, HQ.out⟩
    case measure => simp [intOf]; omega
   ·have hz : decide (cmz (K y) (K x) < 0) = false := decide_eq_false (cmz_ge hK)
    obtain ⟨z, Hz⟩ : ∃ z, Hid (cmz (K y) (K x) = z) := ⟨_, (rfl : cmz (K y) (K x) = _)⟩
    rw [Hz.out] at hz
    have hz1 : ¬ z < 0 := of_decide_eq_false hz
    have HN : Hid (∀ x, a ≤ x → x < h + 1 → Ro K (d x) (d m)) := fun q h3 h4 => by
     have hro : Ro K (d h) (d m) := by rw [Hx.out, Hy.out]; exact ro_lt HL.out hK
     rcases HM.out.one.le h3 (show q ≤ h by omega) (by omega) with e | e
     ·subst e; exact hro
     ·exact e.trans hro
    go_wp2
    go_region_held3 (fun w' => Sw W B n d w') (with_reducible (repeat (first | exact hr | refine Sw.drew ?_ | assumption)))
     (first
      | (go_at_fn g; refine (HC.out d _ (by assumption) y x hy hx).mono ?_; rintro _ w4 ⟨rfl, hb4⟩; rw [Hz.out]; refine (fun hq : Sw W B n d w4 => ?_) (Sw.bel (by assumption) hb4)))
    have HQ : Hid (Sw W B n d w4) := hq
    clear hR hr hb4 hq
    go_wp2
    go_roundw
    case rel => exact ⟨h + 1, j, by go_num, rfl, by omega, by omega, hjb, HN.out, HHI.out, HQ.out⟩
    case measure => simp [intOf]; omega
  ·obtain rfl : i = j := by omega
   have hlt' : ¬ (i : Int) < (i : Int) := by omega
   have HO : Hid (Frm d (rot d i m (m + 1)) a (m + 1) ∧ Inc K (rot d i m (m + 1)) a (m + 1)) := ⟨(Frm.rot d hjb (Nat.le_succ _)).wide hmi (Nat.le_refl _), HM.out.dn hmi hjb HLO.out HHI.out⟩
   go_wp2
   obtain ⟨wo, ho⟩ : ∃ V : World, V = wr := ⟨wr, rfl⟩
   subst ho
   go_loopw [17] (fun v wr => ∃ k : Nat, v = .int .i64 k ∧ i ≤ k ∧ k ≤ m ∧ Sw W B n (rot d k m (m + 1)) wr) (fun v _ => (intOf v).toNat)
   case atStart => exact ⟨m, rfl, by omega, Nat.le_refl _, by rw [rot_a]; exact hr⟩
   case round =>
    clear hr
    obtain ⟨k, rfl, hak, hki, hr⟩ := hrel
    by_cases hkl : i < k
    ·obtain ⟨q, rfl⟩ : ∃ q, k = q + 1 := ⟨k - 1, by omega⟩
     have HS : Hid (swp (rot d (q + 1) m (m + 1)) (q + 1) q = rot d q m (m + 1)) := rot_dn d m q hki
     obtain ⟨e, He⟩ : ∃ e, Hid (rot d (q + 1) m (m + 1) = e) := ⟨_, (rfl : rot d (q + 1) m (m + 1) = _)⟩
     rw [He.out] at HS hr
     obtain ⟨k1, hk1⟩ : ∃ k1, k1 = q + 1 := ⟨_, rfl⟩
     have HK1 : Hid (k1 = q + 1) := hk1
     rw [← hk1] at HS hkl
     have hcast : ((q + 1 : Nat) : Int) = (k1 : Int) := by omega
     rw [hcast]
     have hkl' : (i : Int) < (k1 : Int) := by omega
     have hwk : IntKind.i64.wrap ((k1 : Int) - 1) = (q : Int) := by rw [IntKind.wrap_i64]; omega
     have hqi : (k1 : Int) - 1 = (q : Int) := by omega
     have hkn : k1 < n := by omega
     have hqn : q < n := by omega
     have HR : Hid (Sw W B n e wr) := hr
     have cx := hr.row.cell hkn
     have cy := hr.row.cell hqn
     obtain ⟨x, Hx⟩ : ∃ x, Hid (e k1 = x) := ⟨_, (rfl : e k1 = _)⟩
     obtain ⟨z, Hz⟩ : ∃ x, Hid (e q = x) := ⟨_, (rfl : e q = _)⟩
     simp only [Hx.out, Hz.out] at cx cy
     have fx := hr.row.frozen k1
     have fy := hr.row.frozen q
     have hB := hr.row.lt
     have hne : k1 ≠ q := by omega
     have hne' : q ≠ k1 := by omega
     have hkn' : (k1 : Int) < (n : Int) := by omega
     have hqn' : (q : Int) < (n : Int) := by omega
     clear hk1 hr hcast
     go_wp2
     go_big_region
     obtain ⟨V, HV'⟩ : ∃ V : World, Hid (V = ((wr.setCell ⟨B, k1, none⟩ (.int .i64 (z : Int))).setCell ⟨B, q, none⟩ (.int .i64 (x : Int))).drew) := ⟨_, (rfl : ((wr.setCell ⟨B, k1, none⟩ (.int .i64 (z : Int))).setCell ⟨B, q, none⟩ (.int .i64 (x : Int))).drew = _)⟩
     have HN : Hid (Sw W B n (rot d q m (m + 1)) V) := by
      have := (HR.out.swp hne).drew
      rw [HS.out, Hx.out, Hz.out] at this
      rw [HV'.out]; exact this
     rw [← HV'.out]
     clear cx cy fx fy hB
     go_wp2
     go_roundw
     case rel => exact ⟨q, rfl, by have := HK1.out; omega, by omega, HN.out⟩
     case measure => have := HK1.out; simp [intOf]; omega
    ·obtain rfl : i = k := by omega
     have hkl' : ¬ (i : Int) < (i : Int) := by omega
     have HEq := HE.out
     go_wp2
     (try simp only [Exit.inBlock, Exit.then]); refine bodyPost_ret (results_none rfl _ _ _) rfl ?_
     rw [← HEq]
     exact ⟨rfl, _, hr, HO.out.1, HO.out.2⟩
end Go.Proofs.YtdlgehnoiaoneaaGreatDoor

namespace Go.Proofs.YtdlgehnoiaoneaaGreatDoor
open Go.RowKit Go.Maps Go.Shelf

/-- What a merging leaves. -/
def Mgd (W : World) (B n : Nat) (K : Nat → Int) (d : Nat → Nat) (a b : Nat) (w : World) : Prop := ∃ d', Sw W B n d' w ∧ Frm d d' a b ∧ Inc K d' a b
/-- The merging's contract, for runs that are not longer than N together. -/
def MgdUpto (W : World) (B n c : Nat) (K : Nat → Int) (g : Nat) (p : Value) (N : Nat) : Prop := ∀ (d : Nat → Nat) (a m b : Nat) (w : World), b ≤ a + N → Sw W B n d w → a < m → m < b → b ≤ n → Mok K d a m b → (∀ i, i < n → d i < n) →
 Calls Tryz.prog 76 #[.slice (some ⟨B, 0, none⟩) n c, .int .i64 a, .int .i64 m, .int .i64 b, .func (.func g) #[] #[p]] w fun e w' => e = .returned (.tuple #[]) ∧ Mgd W B n K d a b w'

/-- The two halves merged. -/
theorem mgd_fin {K : Nat → Int} {d e1 e2 e3 : Nat → Nat} {a M b : Nat} (h1 : a ≤ M) (h2 : M ≤ b) (f1 : Frm d e1 a b) (hx : ∀ i j, a ≤ i → i < M → M ≤ j → j < b → Ro K (e1 i) (e1 j)) (f2 : Frm e1 e2 a M) (i2 : Inc K e2 a M) (f3 : Frm e2 e3 M b) (i3 : Inc K e3 M b) : Frm d e3 a b ∧ Inc K e3 a b := by
 refine ⟨f1.trans ((f2.wide (Nat.le_refl _) h2).trans (f3.wide h1 (Nat.le_refl _))), (i2.of fun i _ hi => f3.1 i (Or.inl hi)).join i3 fun i j x y z t => ?_⟩
 rw [f3.1 i (Or.inl y)]
 obtain ⟨i', u1, u2, u3⟩ := f2.2 i x y
 obtain ⟨j', v1, v2, v3⟩ := f3.2 j z t
 rw [u3, v3, f2.1 j' (Or.inr v1)]
 exact hx i' j' u1 u2 v1 v2

set_option maxRecDepth 100000 in
set_option maxHeartbeats 8000000 in
theorem symMid_any (W : World) (B n c : Nat) (K : Nat → Int) (g : Nat) (p : Value) (eg : ∀ args w, (callFunc g args).run Tryz.prog w = .ok (.enter g args) w) (hC : CmpK W B n K g p) (N : Nat) (hI : MgdUpto W B n c K g p N) (d : Nat → Nat) (a m b : Nat) (w : World)
  (hN : b ≤ a + (N + 1)) (hS : Sw W B n d w) (ham : a + 1 < m) (hmb : m + 1 < b) (hbn : b ≤ n) (hn : n ≤ 1048576) (hM : Mok K d a m b) (hv : ∀ i, i < n → d i < n) :
  Calls Tryz.prog 76 #[.slice (some ⟨B, 0, none⟩) n c, .int .i64 a, .int .i64 m, .int .i64 b, .func (.func g) #[] #[p]] w fun e w' => e = .returned (.tuple #[]) ∧ Mgd W B n K d a b w' := by
 have HM : Hid (Mok K d a m b) := hM
 have HV : Hid (∀ i, i < n → d i < n) := hv
 have HC : Hid (CmpK W B n K g p) := hC
 have HI : Hid (MgdUpto W B n c K g p N) := hI
 have hm1 : ¬ (m : Int) - (a : Int) = 1 := by omega
 have hm1b : ((m : Int) - (a : Int) == 1) = false := by simpa using hm1
 have hb1 : ¬ (b : Int) - (m : Int) = 1 := by omega
 have hb1b : ((b : Int) - (m : Int) == 1) = false := by simpa using hb1
 obtain ⟨M, hMd⟩ : ∃ M : Nat, ((a : Int) + (b : Int)) / 2 = M := ⟨(a + b) / 2, by omega⟩
 have HMd : Hid ((a + b) / 2 = M) := by show (a + b) / 2 = M; omega
 obtain ⟨S, hSm⟩ : ∃ S : Nat, (M : Int) + (m : Int) = S := ⟨M + m, by omega⟩
 obtain ⟨P, hP⟩ : ∃ P : Nat, (S : Int) - 1 = P := ⟨S - 1, by omega⟩
 clear hM hv hC hI
 go_enter Tryz.func76, Tryz.ntmps76
 go_upto_if 140 with fail
 go_cut [20, 21] (fun u v wx => ∃ lo hi : Nat, u = .int .i64 lo ∧ v = .int .i64 hi ∧ Cutr a m b lo hi ∧ wx = w)
 case first =>
  by_cases hgt : M < m
  ·have hgt' : (M : Int) < (m : Int) := by omega
   have HR : Hid (Cutr a m b ((a + b) / 2 + m - b) ((a + b) / 2)) := cutr_hi (by omega) (by rw [HMd.out]; exact hgt)
   have hlo : (S : Int) - (b : Int) = ((M + m - b : Nat) : Int) := by
    have := HR.out.nb; have := HR.out.low; rw [HMd.out] at *; omega
   rw [HMd.out] at HR
   go_wp2_with fail
   go_meet
   case rel => exact ⟨_, _, by first | rfl | go_num, rfl, HR.out, rfl⟩
  ·have hgt' : ¬ (M : Int) < (m : Int) := by omega
   have HR : Hid (Cutr a m b a m) := cutr_lo (by omega) (by rw [HMd.out]; exact hgt)
   go_wp2_with fail
   go_meet
   case rel => exact ⟨_, _, rfl, rfl, HR.out, rfl⟩
 case rest =>
  obtain ⟨lo, hi, rfl, rfl, hcr, rfl⟩ := hcut
  have HCR : Hid (Cutr a m b lo hi) := hcr
  obtain ⟨r1, r2, r3, r4, r5, r6, r7⟩ := hcr
  rw [HMd.out] at r4 r5 r6 r7
  clear r6 r7
  go_wp2
  go_loopw [20, 21, 23] (fun u v _ wr => ∃ s r : Nat, u = .int .i64 s ∧ v = .int .i64 r ∧ lo ≤ s ∧ s ≤ r ∧ r ≤ hi ∧ (∀ x, lo ≤ x → x < s → Ro K (d x) (d (P - x))) ∧ (∀ x, r ≤ x → x < hi → Ro K (d (P - x)) (d x)) ∧ Sw W B n d wr) (fun u v _ _ => (intOf v).toNat - (intOf u).toNat)
  case atStart => exact ⟨lo, hi, rfl, rfl, Nat.le_refl _, by omega, Nat.le_refl _, fun x h1 h2 => absurd h2 (by omega), fun x h1 h2 => absurd h2 (by omega), hS⟩
  case round =>
   clear hS
   obtain ⟨s, r, rfl, rfl, hls, hsr, hrh, hlo, hhi, hr⟩ := hrel
   have HLO : Hid (∀ x, lo ≤ x → x < s → Ro K (d x) (d (P - x))) := hlo
   have HHI : Hid (∀ x, r ≤ x → x < hi → Ro K (d (P - x)) (d x)) := hhi
   clear hlo hhi
   by_cases hlt : s < r
   ·have hlt' : (s : Int) < (r : Int) := by omega
    obtain ⟨h, hh⟩ : ∃ h : Nat, ((s : Int) + (r : Int)) / 2 = h := ⟨(s + r) / 2, by omega⟩
    have h1 : s ≤ h := by omega
    have h2 : h < r := by omega
    have hhn : h < n := by omega
    obtain ⟨q, hq⟩ : ∃ q, P - h = q := ⟨_, rfl⟩
    have hq1 : m ≤ q := by omega
    have hq2 : q < b := by omega
    have hqn : q < n := by omega
    have hwq : IntKind.i64.wrap ((P : Int) - (h : Int)) = (q : Int) := by rw [IntKind.wrap_i64]; omega
    have Hq : Hid (P - h = q) := hq
    obtain ⟨x, Hx⟩ : ∃ x, Hid (d h = x) := ⟨_, (rfl : d h = _)⟩
    obtain ⟨y, Hy⟩ : ∃ x, Hid (d q = x) := ⟨_, (rfl : d q = _)⟩
    have hx : x < n := by rw [← Hx.out]; exact HV.out h hhn
    have hy : y < n := by rw [← Hy.out]; exact HV.out q hqn
    have HL : Hid (x < y) := by
     show x < y
     rw [← Hx.out, ← Hy.out]; exact HM.out.lt h q (by omega) (by omega) hq1 hq2
    have hR : ∀ w', Sw W B n d w' → w'.cell? ⟨B, q, none⟩ = some (.int .i64 (y : Int)) ∧ w'.cell? ⟨B, h, none⟩ = some (.int .i64 (x : Int)) := fun w' hw => ⟨by rw [hw.row.cell hqn, Hy.out], by rw [hw.row.cell hhn, Hx.out]⟩
    have hhn' : (h : Int) < (n : Int) := by omega
    have hqn' : (q : Int) < (n : Int) := by omega
    clear hq
    by_cases hK : K y < K x
    ·have hz : decide (cmz (K y) (K x) < 0) = true := decide_eq_true (cmz_lt hK)
     obtain ⟨z, Hz⟩ : ∃ z, Hid (cmz (K y) (K x) = z) := ⟨_, (rfl : cmz (K y) (K x) = _)⟩
     rw [Hz.out] at hz
     have hz1 : z < 0 := of_decide_eq_true hz
     have HN : Hid (∀ x, h ≤ x → x < hi → Ro K (d (P - x)) (d x)) := fun t h3 h4 =>
      HM.out.above (c := h) (x := t) (n := P) (by omega) h3 (by omega) (by omega) (by rw [Hq.out]; exact hq2) (by rw [Hq.out, Hx.out, Hy.out]; exact ro_gt hK)
     go_wp2
     go_region_held3 (fun w' => Sw W B n d w') (with_reducible (repeat (first | exact hr | refine Sw.drew ?_ | assumption)))
      (first
       | (go_at_fn g; refine (HC.out d _ (by assumption) y x hy hx).mono ?_; rintro _ w4 ⟨rfl, hb4⟩; rw [Hz.out]; refine (fun hq : Sw W B n d w4 => ?_) (Sw.bel (by assumption) hb4)))
     have HQ : Hid (Sw W B n d w4) := hq
     clear hR hr hb4 hq
     go_wp2
     go_roundw
     case rel => exact ⟨s, h, rfl, rfl, hls, h1, by omega, HLO.out, HN.out, HQ.out⟩
     case measure => simp [intOf]; omega
    ·have hz : decide (cmz (K y) (K x) < 0) = false := decide_eq_false (cmz_ge hK)
     obtain ⟨z, Hz⟩ : ∃ z, Hid (cmz (K y) (K x) = z) := ⟨_, (rfl : cmz (K y) (K x) = _)⟩
     rw [Hz.out] at hz
     have hz1 : ¬ z < 0 := of_decide_eq_false hz
     have HN : Hid (∀ x, lo ≤ x → x < h + 1 → Ro K (d x) (d (P - x))) := fun t h3 h4 =>
      HM.out.below (c := h) (x := t) (n := P) (by omega) (by omega) (by omega) (by omega) (by omega) (by rw [Hq.out, Hx.out, Hy.out]; exact ro_lt HL.out hK)
     go_wp2
     go_region_held3 (fun w' => Sw W B n d w') (with_reducible (repeat (first | exact hr | refine Sw.drew ?_ | assumption)))
      (first
       | (go_at_fn g; refine (HC.out d _ (by assumption) y x hy hx).mono ?_; rintro _ w4 ⟨rfl, hb4⟩; rw [Hz.out]; refine (fun hq : Sw W B n d w4 => ?_) (Sw.bel (by assumption) hb4)))
     have HQ : Hid (Sw W B n d w4) := hq
     clear hR hr hb4 hq
     go_wp2
     go_roundw
     case rel => exact ⟨h + 1, r, by go_num, rfl, by omega, by omega, hrh, HN.out, HHI.out, HQ.out⟩
     case measure => simp [intOf]; omega
   ·obtain rfl : s = r := by omega
    have hlt' : ¬ (s : Int) < (s : Int) := by omega
    obtain ⟨E, hE⟩ : ∃ E : Nat, (S : Int) - (s : Int) = E := ⟨S - s, by omega⟩
    have hP' : M + m - 1 = P := by omega
    have hE' : M + m - s = E := by omega
    have HX := HM.out.cut (by omega) HCR.out hls hrh (by rw [HMd.out, hP']; exact HLO.out) (by rw [HMd.out, hP']; exact HHI.out)
    rw [HMd.out, hE'] at HX
    have hEb : E ≤ b := by omega
    have hmE : m ≤ E := by omega
    have hsm : s ≤ m := by omega
    have has : a ≤ s := by omega
    have hsM : s ≤ M := by omega
    have haM : a < M := by omega
    have hMb : M < b := by omega
    have hME : M ≤ E := by omega
    obtain ⟨e1, He1⟩ : ∃ e, Hid (rot d s m E = e) := ⟨_, (rfl : rot d s m E = _)⟩
    rw [He1.out] at HX
    have HX : Hid _ := HX
    have HV1 : Hid (∀ i, i < n → e1 i < n) := HX.out.2.2.2.vals HV.out hbn
    have hEs : E + s = M + m := by omega
    clear hP' hE' hMd hSm hP r1 r2 r3 r4 r5
    by_cases h1 : s < m
    ·by_cases h2 : m < E
     ·have h4 : s < M := by omega
      have h5 : M < E := by omega
      have h1' : (s : Int) < (m : Int) := by omega
      have h2' : (m : Int) < (E : Int) := by omega
      have h4' : (s : Int) < (M : Int) := by omega
      have h5' : (M : Int) < (E : Int) := by omega
      by_cases h3 : a < s
      ·have h3' : (a : Int) < (s : Int) := by omega
       by_cases h6 : E < b
       ·have h6' : (E : Int) < (b : Int) := by omega
        go_wp2_with fail
        refine (rotate_any W B n c d _ s m E _ hr h1 h2 (by omega) hn).mono ?_
        rintro _ w5 ⟨rfl, hr1⟩
        rw [He1.out] at hr1
        go_wp2_with fail
        refine (HI.out e1 a s M _ (by omega) hr1 h3 h4 (by omega) HX.out.1 HV1.out).mono ?_
        rintro _ w6 ⟨rfl, e2, hS2, f2, i2⟩
        have HM2 : Mok K e2 M E b := HX.out.2.1.of (fun i h1 _ => f2.1 i (Or.inr h1)) hME hEb
        have HV2 : ∀ i, i < n → e2 i < n := f2.vals HV1.out (by omega)
        go_wp2_with fail
        refine (HI.out e2 M E b _ (by omega) hS2 h5 h6 hbn HM2 HV2).mono ?_
        rintro _ w7 ⟨rfl, e3, hS3, f3, i3⟩
        have HO : Hid _ := mgd_fin (by omega) (by omega) HX.out.2.2.2 HX.out.2.2.1 f2 i2 f3 i3
        clear f2 i2 f3 i3
        go_wp2
        go_end0
        exact ⟨rfl, e3, hS3, HO.out.1, HO.out.2⟩
       ·have h6' : ¬ (E : Int) < (b : Int) := by omega
        go_wp2_with fail
        refine (rotate_any W B n c d _ s m E _ hr h1 h2 (by omega) hn).mono ?_
        rintro _ w5 ⟨rfl, hr1⟩
        rw [He1.out] at hr1
        go_wp2_with fail
        refine (HI.out e1 a s M _ (by omega) hr1 h3 h4 (by omega) HX.out.1 HV1.out).mono ?_
        rintro _ w6 ⟨rfl, e2, hS2, f2, i2⟩
        obtain ⟨e3, hS3, f3, i3⟩ : ∃ e3, Sw W B n e3 w6 ∧ Frm e2 e3 M b ∧ Inc K e3 M b := ⟨e2, hS2, Frm.refl _ _ _, by
         have HM2 : Mok K e2 M E b := HX.out.2.1.of (fun i h1 _ => f2.1 i (Or.inr h1)) hME hEb
         have := HM2.one; rwa [show E = b by omega] at this⟩
        have HO : Hid _ := mgd_fin (by omega) (by omega) HX.out.2.2.2 HX.out.2.2.1 f2 i2 f3 i3
        clear f2 i2 f3 i3
        go_wp2
        go_end0
        exact ⟨rfl, e3, hS3, HO.out.1, HO.out.2⟩
      ·have h3' : ¬ (a : Int) < (s : Int) := by omega
       by_cases h6 : E < b
       ·have h6' : (E : Int) < (b : Int) := by omega
        go_wp2_with fail
        refine (rotate_any W B n c d _ s m E _ hr h1 h2 (by omega) hn).mono ?_
        rintro _ w5 ⟨rfl, hr1⟩
        rw [He1.out] at hr1
        obtain ⟨e2, hS2, f2, i2⟩ : ∃ e2, Sw W B n e2 w5 ∧ Frm e1 e2 a M ∧ Inc K e2 a M := ⟨e1, hr1, Frm.refl _ _ _, by have := HX.out.1.two; rwa [show s = a by omega] at this⟩
        have HM2 : Mok K e2 M E b := HX.out.2.1.of (fun i h1 _ => f2.1 i (Or.inr h1)) hME hEb
        have HV2 : ∀ i, i < n → e2 i < n := f2.vals HV1.out (by omega)
        go_wp2_with fail
        refine (HI.out e2 M E b _ (by omega) hS2 h5 h6 hbn HM2 HV2).mono ?_
        rintro _ w7 ⟨rfl, e3, hS3, f3, i3⟩
        have HO : Hid _ := mgd_fin (by omega) (by omega) HX.out.2.2.2 HX.out.2.2.1 f2 i2 f3 i3
        clear f2 i2 f3 i3
        go_wp2
        go_end0
        exact ⟨rfl, e3, hS3, HO.out.1, HO.out.2⟩
       ·have h6' : ¬ (E : Int) < (b : Int) := by omega
        go_wp2_with fail
        refine (rotate_any W B n c d _ s m E _ hr h1 h2 (by omega) hn).mono ?_
        rintro _ w5 ⟨rfl, hr1⟩
        rw [He1.out] at hr1
        obtain ⟨e2, hS2, f2, i2⟩ : ∃ e2, Sw W B n e2 w5 ∧ Frm e1 e2 a M ∧ Inc K e2 a M := ⟨e1, hr1, Frm.refl _ _ _, by have := HX.out.1.two; rwa [show s = a by omega] at this⟩
        obtain ⟨e3, hS3, f3, i3⟩ : ∃ e3, Sw W B n e3 w5 ∧ Frm e2 e3 M b ∧ Inc K e3 M b := ⟨e2, hS2, Frm.refl _ _ _, by
         have HM2 : Mok K e2 M E b := HX.out.2.1.of (fun i h1 _ => f2.1 i (Or.inr h1)) hME hEb
         have := HM2.one; rwa [show E = b by omega] at this⟩
        have HO : Hid _ := mgd_fin (by omega) (by omega) HX.out.2.2.2 HX.out.2.2.1 f2 i2 f3 i3
        clear f2 i2 f3 i3
        go_wp2
        go_end0
        exact ⟨rfl, e3, hS3, HO.out.1, HO.out.2⟩
     ·have h3 : a < s := by omega
      have h5 : M < E := by omega
      have h6 : E < b := by omega
      have h1' : (s : Int) < (m : Int) := by omega
      have h2' : ¬ (m : Int) < (E : Int) := by omega
      have h3' : (a : Int) < (s : Int) := by omega
      have h4' : ¬ (s : Int) < (M : Int) := by omega
      have h5' : (M : Int) < (E : Int) := by omega
      have h6' : (E : Int) < (b : Int) := by omega
      have ee : e1 = d := by rw [← He1.out, show E = m by omega]; exact rot_b d s m
      have hr1 : Sw W B n e1 wr := by rw [ee]; exact hr
      obtain ⟨e2, hS2, f2, i2⟩ : ∃ e2, Sw W B n e2 wr ∧ Frm e1 e2 a M ∧ Inc K e2 a M := ⟨e1, hr1, Frm.refl _ _ _, by have := HX.out.1.one; rwa [show s = M by omega] at this⟩
      have HM2 : Mok K e2 M E b := HX.out.2.1.of (fun i h1 _ => f2.1 i (Or.inr h1)) hME hEb
      have HV2 : ∀ i, i < n → e2 i < n := f2.vals HV1.out (by omega)
      go_wp2_with fail
      refine (HI.out e2 M E b _ (by omega) hS2 h5 h6 hbn HM2 HV2).mono ?_
      rintro _ w7 ⟨rfl, e3, hS3, f3, i3⟩
      have HO : Hid _ := mgd_fin (by omega) (by omega) HX.out.2.2.2 HX.out.2.2.1 f2 i2 f3 i3
      clear f2 i2 f3 i3
      go_wp2
      go_end0
      exact ⟨rfl, e3, hS3, HO.out.1, HO.out.2⟩
    ·have h3 : a < s := by omega
     have h1' : ¬ (s : Int) < (m : Int) := by omega
     have h3' : (a : Int) < (s : Int) := by omega
     have h5' : ¬ (M : Int) < (E : Int) := by omega
     have ee : e1 = d := by rw [← He1.out, show s = m by omega]; exact rot_a d m E
     have hr1 : Sw W B n e1 wr := by rw [ee]; exact hr
     by_cases h4 : s < M
     ·have h4' : (s : Int) < (M : Int) := by omega
      go_wp2_with fail
      refine (HI.out e1 a s M _ (by omega) hr1 h3 h4 (by omega) HX.out.1 HV1.out).mono ?_
      rintro _ w6 ⟨rfl, e2, hS2, f2, i2⟩
      obtain ⟨e3, hS3, f3, i3⟩ : ∃ e3, Sw W B n e3 w6 ∧ Frm e2 e3 M b ∧ Inc K e3 M b := ⟨e2, hS2, Frm.refl _ _ _, by
       have HM2 : Mok K e2 M E b := HX.out.2.1.of (fun i h1 _ => f2.1 i (Or.inr h1)) hME hEb
       have := HM2.two; rwa [show E = M by omega] at this⟩
      have HO : Hid _ := mgd_fin (by omega) (by omega) HX.out.2.2.2 HX.out.2.2.1 f2 i2 f3 i3
      clear f2 i2 f3 i3
      go_wp2
      go_end0
      exact ⟨rfl, e3, hS3, HO.out.1, HO.out.2⟩
     ·have h4' : ¬ (s : Int) < (M : Int) := by omega
      obtain ⟨e2, hS2, f2, i2⟩ : ∃ e2, Sw W B n e2 wr ∧ Frm e1 e2 a M ∧ Inc K e2 a M := ⟨e1, hr1, Frm.refl _ _ _, by have := HX.out.1.one; rwa [show s = M by omega] at this⟩
      obtain ⟨e3, hS3, f3, i3⟩ : ∃ e3, Sw W B n e3 wr ∧ Frm e2 e3 M b ∧ Inc K e3 M b := ⟨e2, hS2, Frm.refl _ _ _, by
       have HM2 : Mok K e2 M E b := HX.out.2.1.of (fun i h1 _ => f2.1 i (Or.inr h1)) hME hEb
       have := HM2.two; rwa [show E = M by omega] at this⟩
      have HO : Hid _ := mgd_fin (by omega) (by omega) HX.out.2.2.2 HX.out.2.2.1 f2 i2 f3 i3
      clear f2 i2 f3 i3
      go_wp2
      go_end0
      exact ⟨rfl, e3, hS3, HO.out.1, HO.out.2⟩

theorem sym_any (W : World) (B n c : Nat) (K : Nat → Int) (g : Nat) (p : Value) (eg : ∀ args w, (callFunc g args).run Tryz.prog w = .ok (.enter g args) w) (hC : CmpK W B n K g p) (hn : n ≤ 1048576) : ∀ N, MgdUpto W B n c K g p N := by
 intro N
 induction N with
 | zero => intro d a m b w hN _ h1 h2; omega
 | succ N ih =>
  intro d a m b w hN hS ham hmb hbn hM hv
  by_cases e1 : m = a + 1
  ·subst e1; exact symUp_any W B n c K g p eg hC d a b w hS hmb hbn hn hM hv
  ·by_cases e2 : b = m + 1
   ·subst e2; exact symDn_any W B n c K g p eg hC d a m w hS (by omega) hbn hn hM hv
   ·exact symMid_any W B n c K g p eg hC N ih d a m b w hN hS (by omega) (by omega) hbn hn hM hv
end Go.Proofs.YtdlgehnoiaoneaaGreatDoor

namespace Go.Proofs.YtdlgehnoiaoneaaGreatDoor
open Go.RowKit Go.Maps Go.Shelf

set_option maxRecDepth 100000 in
set_option maxHeartbeats 8000000 in
theorem stable_any (W : World) (B n c : Nat) (K : Nat → Int) (g : Nat) (p : Value) (eg : ∀ args w, (callFunc g args).run Tryz.prog w = .ok (.enter g args) w) (hC : CmpK W B n K g p) (w : World)
  (hS : Sw W B n (fun i => i) w) (hn : n ≤ 1048576) :
  Calls Tryz.prog 60 #[.slice (some ⟨B, 0, none⟩) n c, .int .i64 n, .func (.func g) #[] #[p]] w fun e w' => e = .returned (.tuple #[]) ∧ ∃ d', Sw W B n d' w' ∧ Bk K d' 0 n := by
 have HC : Hid (CmpK W B n K g p) := hC
 have HY : Hid (∀ N, MgdUpto W B n c K g p N) := sym_any W B n c K g p eg hC hn
 clear hC
 go_enter Tryz.func60, Tryz.ntmps60
 go_wp2
 go_loopw [7, 8] (fun u v wr => ∃ (q a : Nat) (e : Nat → Nat), u = .int .i64 a ∧ v = .int .i64 ((a + 20 : Nat) : Int) ∧ a = 20 * q ∧ a ≤ n ∧ Fst K e q ∧ Sw W B n e wr ∧ ∀ i, i < n → e i < n) (fun u _ _ => n + 20 - (intOf u).toNat)
 case atStart => exact ⟨0, 0, _, rfl, rfl, rfl, Nat.zero_le _, ⟨fun k hk => absurd hk (Nat.not_lt_zero _), fun _ _ => rfl⟩, hS, fun _ h => h⟩
 case round =>
  clear hS
  obtain ⟨q, a, e, rfl, rfl, haq, han, hF, hr, hv⟩ := hrel
  have HA : Hid (a = 20 * q) := haq
  have HF : Hid (Fst K e q) := hF
  have HV : Hid (∀ i, i < n → e i < n) := hv
  clear haq hF hv
  by_cases hle : a + 20 ≤ n
  ·have hle' : (a : Int) + 20 ≤ (n : Int) := by omega
   obtain ⟨b, hb⟩ : ∃ b, a + 20 = b := ⟨_, rfl⟩
   have HB : Hid (a + 20 = b) := hb
   have hbi : (a : Int) + 20 = (b : Int) := by omega
   have cS := insSort_any W B n c K g p eg HC.out e a b wr hr (by omega) (by omega) hn (fun i j h1 h2 _ => HF.out.asc i j (by have := HA.out; omega) h2) HV.out
   rw [hb]
   clear hb
   go_wp2_with fail
   refine cS.mono ?_
   rintro _ w1 ⟨rfl, e1, S1, f1, i1⟩
   have HN : Hid (Fst K e1 (q + 1)) := by
    have hA := HA.out
    have hB := HB.out
    subst hB; subst hA
    exact HF.out.step f1 i1
   have HV1 : Hid (∀ i, i < n → e1 i < n) := f1.vals HV.out (by have := HB.out; omega)
   clear cS f1 i1
   go_wp2
   go_roundw
   case rel => exact ⟨q + 1, b, e1, rfl, by go_num, by have := HA.out; have := HB.out; omega, by have := HB.out; omega, HN.out, S1, HV1.out⟩
   case measure => have := HB.out; simp [intOf]; omega
  ·have hle' : ¬ (a : Int) + 20 ≤ (n : Int) := by omega
   have cS := insSort_any W B n c K g p eg HC.out e a n wr hr han (Nat.le_refl _) hn (fun i j h1 h2 _ => HF.out.asc i j (by have := HA.out; omega) h2) HV.out
   go_wp2_with fail
   refine cS.mono ?_
   rintro _ w1 ⟨rfl, e1, S1, f1, i1⟩
   have HN : Hid (Lvl K e1 n 20) := by
    have hA := HA.out
    subst hA
    exact HF.out.lvl han (by omega) f1 i1
   have HV1 : Hid (∀ i, i < n → e1 i < n) := f1.vals HV.out (Nat.le_refl _)
   clear cS f1 i1 hr
   go_wp2
   go_loopw [6, 7, 8, 9] (fun u _ _ _ wr => ∃ (s : Nat) (e : Nat → Nat), u = .int .i64 s ∧ 20 ≤ s ∧ s ≤ 2 * n + 20 ∧ Lvl K e n s ∧ Sw W B n e wr ∧ ∀ i, i < n → e i < n) (fun u _ _ _ _ => n - (intOf u).toNat)
   case atStart => exact ⟨20, e1, rfl, Nat.le_refl _, by omega, HN.out, S1, HV1.out⟩
   case round =>
    clear HN HV1 S1 HF HV HA hle hle'
    obtain ⟨s, e2, rfl, hs20, hs2, hL, hr, hv⟩ := hrel
    have HL : Hid (Lvl K e2 n s) := hL
    have HV : Hid (∀ i, i < n → e2 i < n) := hv
    clear hL hv
    by_cases hsn : s < n
    ·have hsn' : (s : Int) < (n : Int) := by omega
     go_wp2
     obtain ⟨wo, ho⟩ : ∃ V : World, V = wr := ⟨wr, rfl⟩
     subst ho
     go_loopw [7, 8] (fun u v wr => ∃ (q a : Nat) (e : Nat → Nat), u = .int .i64 a ∧ v = .int .i64 ((a + 2 * s : Nat) : Int) ∧ a = 2 * s * q ∧ a ≤ n ∧ Mdl K e n s q ∧ Sw W B n e wr ∧ ∀ i, i < n → e i < n) (fun u _ _ => n - (intOf u).toNat)
     case atStart => exact ⟨0, 0, e2, rfl, by go_num, by rw [Nat.mul_zero], Nat.zero_le _, HL.out.mdl, hr, HV.out⟩
     case round =>
      clear hr HL HV
      obtain ⟨q, a, e, rfl, rfl, haq, han, hM, hr, hv⟩ := hrel
      have HA : Hid (a = 2 * s * q) := haq
      have HM : Hid (Mdl K e n s q) := hM
      have HV : Hid (∀ i, i < n → e i < n) := hv
      clear haq hM hv
      by_cases hle : a + 2 * s ≤ n
      ·obtain ⟨b, hb⟩ : ∃ b, a + 2 * s = b := ⟨_, rfl⟩
       obtain ⟨m, hm⟩ : ∃ m, a + s = m := ⟨_, rfl⟩
       have HB : Hid (a + 2 * s = b) := hb
       have HMm : Hid (a + s = m) := hm
       have hmi : (a : Int) + (s : Int) = (m : Int) := by omega
       have hbn : (b : Int) ≤ (n : Int) := by omega
       have hmin : b = min (a + 2 * s) n := by rw [Nat.min_eq_left hle]; exact hb.symm
       have b1 := HM.out.one HA.out (show a + s ≤ n by omega)
       have b2 := HM.out.two HA.out hmin
       rw [hm] at b1 b2
       have cS := HY.out n e a m b wr (by omega) hr (by omega) (by omega) (by omega) (b1.mok b2) HV.out
       have Hmin : Hid (b = min (a + 2 * s) n) := hmin
       rw [hb]
       clear hb hm b1 b2 hmin
       go_wp2_with fail
       refine cS.mono ?_
       rintro _ w3 ⟨rfl, e3, S3, f3, i3⟩
       have HN : Hid (Mdl K e3 n s (q + 1)) := HM.out.step HA.out Hmin.out (by have := HMm.out; have := HB.out; omega) f3 i3
       have HV1 : Hid (∀ i, i < n → e3 i < n) := f3.vals HV.out (by have := HB.out; omega)
       have HE : Hid (b = 2 * s * (q + 1)) := by show b = _; rw [Nat.mul_add, Nat.mul_one, ← HA.out]; exact HB.out.symm
       clear cS f3 i3 hr
       go_wp2
       go_roundw
       case rel => exact ⟨q + 1, b, e3, rfl, by go_num, HE.out, by have := HB.out; omega, HN.out, S3, HV1.out⟩
       case measure => have := HB.out; simp [intOf]; omega
      ·have hle' : ¬ (a : Int) + 2 * (s : Int) ≤ (n : Int) := by omega
       obtain ⟨m, hm⟩ : ∃ m, a + s = m := ⟨_, rfl⟩
       have HMm : Hid (a + s = m) := hm
       have hmi : (a : Int) + (s : Int) = (m : Int) := by omega
       by_cases hmn : m < n
       ·have hmn' : (m : Int) < (n : Int) := by omega
        have hmin : n = min (a + 2 * s) n := by rw [Nat.min_eq_right (by omega)]
        have b1 := HM.out.one HA.out (show a + s ≤ n by omega)
        have b2 := HM.out.two HA.out hmin
        rw [hm] at b1 b2
        have cS := HY.out n e a m n wr (by omega) hr (by omega) (by omega) (Nat.le_refl _) (b1.mok b2) HV.out
        have Hmin : Hid (n = min (a + 2 * s) n) := hmin
        clear hm b1 b2 hmin
        go_wp2_with fail
        refine cS.mono ?_
        rintro _ w3 ⟨rfl, e3, S3, f3, i3⟩
        have HN : Hid (Lvl K e3 n (2 * s)) := (HM.out.step HA.out Hmin.out (by have := HMm.out; omega) f3 i3).last HA.out (by omega)
        have HV1 : Hid (∀ i, i < n → e3 i < n) := f3.vals HV.out (Nat.le_refl _)
        clear cS f3 i3 hr
        go_wp2
        go_roundw
        case rel => exact ⟨2 * s, e3, by go_num, by omega, by omega, HN.out, S3, HV1.out⟩
        case measure => simp [intOf]; omega
       ·have hmn' : ¬ (m : Int) < (n : Int) := by omega
        have HN : Hid (Lvl K e n (2 * s)) := HM.out.lvl HA.out (by omega)
        clear hm
        go_wp2
        go_roundw
        case rel => exact ⟨2 * s, e, by go_num, by omega, by omega, HN.out, hr, HV.out⟩
        case measure => simp [intOf]; omega
    ·have hsn' : ¬ (s : Int) < (n : Int) := by omega
     have HO : Hid (Bk K e2 0 n) := HL.out.all (by omega)
     go_wp2
     go_end0
     exact ⟨rfl, e2, hr, HO.out⟩

set_option maxHeartbeats 1000000 in
theorem sortStable_any (W : World) (B n c : Nat) (K : Nat → Int) (g : Nat) (p : Value) (eg : ∀ args w, (callFunc g args).run Tryz.prog w = .ok (.enter g args) w) (hC : CmpK W B n K g p) (w : World)
  (hS : Sw W B n (fun i => i) w) (hn : n ≤ 1048576) :
  Calls Tryz.prog 44 #[.slice (some ⟨B, 0, none⟩) n c, .func (.func g) #[] #[p]] w fun e w' => e = .returned (.tuple #[]) ∧ ∃ d', Sw W B n d' w' ∧ Bk K d' 0 n := by
 go_enter Tryz.func44, Tryz.ntmps44
 go_wp2_with fail
 refine (stable_any W B n c K g p eg hC _ hS hn).mono ?_
 rintro _ w1 ⟨rfl, h1⟩
 go_wp2
 go_end0
 exact ⟨rfl, h1⟩
end Go.Proofs.YtdlgehnoiaoneaaGreatDoor
