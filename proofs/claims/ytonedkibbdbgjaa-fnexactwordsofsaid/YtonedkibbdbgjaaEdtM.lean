/-
  How many bytes must be put, cut or changed to make one list of another: mathematics.
-/
import Derived.Test.YtonedkibbdbgjaaGeo
namespace Go.Proofs.Ytonedkibbdbgjaa

/-- The least number of edits, from the front. -/
def lev : List UInt8 → List UInt8 → Nat
  | [], b => b.length
  | x :: a, [] => (x :: a).length
  | x :: a, y :: b => min (min (lev a (y :: b) + 1) (lev (x :: a) b + 1)) (lev a b + if x = y then 0 else 1)
termination_by a b => a.length + b.length
/-- One list is made of another by so many edits. -/
inductive Ed : List UInt8 → List UInt8 → Nat → Prop
  | nil : Ed [] [] 0
  | cut {a b n} (x) : Ed a b n → Ed (x :: a) b (n + 1)
  | put {a b n} (y) : Ed a b n → Ed a (y :: b) (n + 1)
  | chg {a b n} (x y) : Ed a b n → Ed (x :: a) (y :: b) (n + 1)
  | keep {a b n} (x) : Ed a b n → Ed (x :: a) (x :: b) n
theorem lev_nil (b : List UInt8) : lev [] b = b.length := by rw [lev]
theorem lev_nil' (a : List UInt8) : lev a [] = a.length := by cases a <;> rw [lev]
theorem lev_cons (x y : UInt8) (a b : List UInt8) : lev (x :: a) (y :: b) = min (min (lev a (y :: b) + 1) (lev (x :: a) b + 1)) (lev a b + if x = y then 0 else 1) := by rw [lev]
theorem Ed.puts : ∀ b : List UInt8, Ed [] b b.length
  | [] => .nil
  | y :: b => .put y (Ed.puts b)
theorem Ed.cuts : ∀ b : List UInt8, Ed b [] b.length
  | [] => .nil
  | y :: b => .cut y (Ed.cuts b)
theorem lev_ed (a b : List UInt8) : Ed a b (lev a b) := by
  match a, b with
  | [], b => rw [lev_nil]; exact Ed.puts b
  | x :: a, [] => rw [lev_nil']; exact Ed.cuts _
  | x :: a, y :: b =>
    rw [lev_cons]
    have h1 := lev_ed a (y :: b)
    have h2 := lev_ed (x :: a) b
    have h3 := lev_ed a b
    have h3' : Ed (x :: a) (y :: b) (lev a b + if x = y then 0 else 1) := by
      by_cases h : x = y
      · subst h; rw [if_pos rfl]; exact .keep x h3
      · rw [if_neg h]; exact .chg x y h3
    rcases Nat.le_total (lev a (y :: b) + 1) (lev (x :: a) b + 1) with h | h
    · rw [Nat.min_eq_left h]
      rcases Nat.le_total (lev a (y :: b) + 1) (lev a b + if x = y then 0 else 1) with h' | h'
      · rw [Nat.min_eq_left h']; exact .cut x h1
      · rw [Nat.min_eq_right h']; exact h3'
    · rw [Nat.min_eq_right h]
      rcases Nat.le_total (lev (x :: a) b + 1) (lev a b + if x = y then 0 else 1) with h' | h'
      · rw [Nat.min_eq_left h']; exact .put y h2
      · rw [Nat.min_eq_right h']; exact h3'
termination_by a.length + b.length
theorem lev_le {a b : List UInt8} {n : Nat} (h : Ed a b n) : lev a b ≤ n := by
  induction h with
  | nil => rw [lev_nil]; exact Nat.le_refl _
  | @cut a b n x h ih =>
    cases b with
    | nil => rw [lev_nil'] at ih ⊢; simp only [List.length_cons]; omega
    | cons y b => rw [lev_cons]; omega
  | @put a b n y h ih =>
    cases a with
    | nil => rw [lev_nil] at ih ⊢; simp only [List.length_cons]; omega
    | cons x a => rw [lev_cons]; omega
  | @chg a b n x y h ih => rw [lev_cons]; split <;> omega
  | @keep a b n x h ih => rw [lev_cons, if_pos rfl]; omega
theorem Ed.swap {a b : List UInt8} {n : Nat} (h : Ed a b n) : Ed b a n := by
  induction h with
  | nil => exact .nil
  | cut x _ ih => exact .put x ih
  | put y _ ih => exact .cut y ih
  | chg x y _ ih => exact .chg y x ih
  | keep x _ ih => exact .keep x ih
theorem Ed.join {a b c d : List UInt8} {n m : Nat} (h : Ed a b n) (h' : Ed c d m) : Ed (a ++ c) (b ++ d) (n + m) := by
  induction h with
  | nil => simpa using h'
  | @cut a b n x _ ih => have := Ed.cut x ih; rwa [show n + m + 1 = n + 1 + m by omega] at this
  | @put a b n y _ ih => have := Ed.put y ih; rwa [show n + m + 1 = n + 1 + m by omega] at this
  | @chg a b n x y _ ih => have := Ed.chg x y ih; rwa [show n + m + 1 = n + 1 + m by omega] at this
  | keep x _ ih => exact .keep x ih
theorem Ed.rev {a b : List UInt8} {n : Nat} (h : Ed a b n) : Ed a.reverse b.reverse n := by
  induction h with
  | nil => exact .nil
  | cut x _ ih => have := ih.join (.cut x .nil); simpa using this
  | put y _ ih => have := ih.join (.put y .nil); simpa using this
  | chg x y _ ih => have := ih.join (.chg x y .nil); simpa using this
  | keep x _ ih => have := ih.join (.keep x .nil); simpa using this
theorem lev_rev (a b : List UInt8) : lev a.reverse b.reverse = lev a b := by
  have h1 := lev_le (lev_ed a b).rev
  have h2 := lev_le (lev_ed a.reverse b.reverse).rev
  rw [List.reverse_reverse, List.reverse_reverse] at h2
  omega
theorem lev_swap (a b : List UInt8) : lev a b = lev b a := Nat.le_antisymm (lev_le (lev_ed b a).swap) (lev_le (lev_ed a b).swap)
/-- What is put can be left out. -/
theorem Ed.less {a b' : List UInt8} {n : Nat} (h : Ed a b' n) : ∀ x b, b' = x :: b → ∃ m, m ≤ n + 1 ∧ Ed a b m := by
  induction h with
  | nil => intro x b e; cases e
  | @cut a b n c h ih =>
    intro x b' e
    obtain ⟨m, hm, h'⟩ := ih x b' e
    exact ⟨m + 1, by omega, .cut c h'⟩
  | @put a b n y h ih => intro x b' e; cases e; exact ⟨n, by omega, h⟩
  | @chg a b n c y h ih => intro x b' e; cases e; exact ⟨n + 1, by omega, .cut c h⟩
  | @keep a b n c h ih => intro x b' e; cases e; exact ⟨n + 1, by omega, .cut c h⟩
theorem lev_same (x : UInt8) (a b : List UInt8) : lev (x :: a) (x :: b) = lev a b := by
  refine Nat.le_antisymm (lev_le (.keep x (lev_ed a b))) ?_
  rw [lev_cons, if_pos rfl]
  have h1 : lev a b ≤ lev a (x :: b) + 1 := by
    obtain ⟨m, hm, h⟩ := (lev_ed a (x :: b)).less x b rfl
    have := lev_le h; omega
  have h2 : lev a b ≤ lev (x :: a) b + 1 := by
    obtain ⟨m, hm, h⟩ := (lev_ed (x :: a) b).swap.less x a rfl
    have := lev_le h.swap; omega
  omega
theorem lev_other {x y : UInt8} (h : x ≠ y) (a b : List UInt8) : lev (x :: a) (y :: b) = 1 + min (min (lev a (y :: b)) (lev (x :: a) b)) (lev a b) := by
  rw [lev_cons, if_neg h]; omega
theorem Ed.self {a b : List UInt8} {n : Nat} (h : Ed a b n) : n = 0 → a = b := by
  induction h with
  | nil => intro _; rfl
  | cut _ _ _ => intro h; omega
  | put _ _ _ => intro h; omega
  | chg _ _ _ _ => intro h; omega
  | keep x _ ih => intro h; rw [ih h]
theorem Ed.idem : ∀ a : List UInt8, Ed a a 0
  | [] => .nil
  | x :: a => .keep x (Ed.idem a)
theorem lev_zero (a b : List UInt8) : lev a b = 0 ↔ a = b := by
  constructor
  · intro h; exact (lev_ed a b).self h
  · rintro rfl; exact Nat.le_zero.1 (lev_le (Ed.idem a))
theorem lev_more (a b : List UInt8) (q : UInt8) : lev (a ++ [q]) b ≤ lev a b + 1 := by
  have := (lev_ed a b).join (.cut q .nil); simp only [List.append_nil] at this; exact lev_le this
theorem lev_less (a b : List UInt8) (q : UInt8) : lev a b ≤ lev (a ++ [q]) b + 1 := by
  have h := (lev_ed (a ++ [q]) b).rev.swap
  rw [List.reverse_append] at h
  obtain ⟨m, hm, h'⟩ := h.less q a.reverse (by simp)
  have := h'.swap.rev
  rw [List.reverse_reverse, List.reverse_reverse] at this
  have := lev_le this
  omega
theorem lev_both (a b : List UInt8) (q : UInt8) : lev (a ++ [q]) (b ++ [q]) ≤ lev a b := lev_le ((lev_ed a b).join (.keep q .nil))

/-- The bytes of a text. -/
def bts (s : ByteArray) : List UInt8 := s.data.toList
theorem bts_len (s : ByteArray) : (bts s).length = s.size := by simp [bts]
/-- What Edits tells. -/
def edQ (a b : ByteArray) : Int := if 40 < a.size ∨ 40 < b.size then 3 else min (lev (bts a) (bts b) : Int) 3
/-- The table of all beginnings. -/
def levD (A B : List UInt8) (i k : Nat) : Nat := lev (A.take i).reverse (B.take k).reverse
theorem levD_row (A B : List UInt8) {k : Nat} (h : k ≤ B.length) : levD A B 0 k = k := by simp [levD, lev_nil, List.length_take]; omega
theorem levD_col (A B : List UInt8) {i : Nat} (h : i ≤ A.length) : levD A B i 0 = i := by simp [levD, lev_nil', List.length_take]; omega
theorem levD_step (A B : List UInt8) {i k : Nat} (hi : i < A.length) (hk : k < B.length) :
    levD A B (i + 1) (k + 1) = min (min (levD A B i (k + 1) + 1) (levD A B (i + 1) k + 1)) (levD A B i k + if A[i] = B[k] then 0 else 1) := by
  unfold levD
  have e1 : (A.take (i + 1)).reverse = A[i] :: (A.take i).reverse := by rw [List.take_succ_eq_append_getElem hi, List.reverse_append]; rfl
  have e2 : (B.take (k + 1)).reverse = B[k] :: (B.take k).reverse := by rw [List.take_succ_eq_append_getElem hk, List.reverse_append]; rfl
  rw [e1, e2, lev_cons, ← e1, ← e2]
theorem levD_all (A B : List UInt8) : levD A B A.length B.length = lev A B := by unfold levD; rw [List.take_length, List.take_length, lev_rev]
theorem levD_le (A B : List UInt8) {i k : Nat} : levD A B i k ≤ i + k := by
  unfold levD
  have h := lev_le ((Ed.cuts (A.take i).reverse).join (Ed.puts (B.take k).reverse))
  simp only [List.append_nil, List.nil_append, List.length_reverse, List.length_take] at h
  omega
end Go.Proofs.Ytonedkibbdbgjaa
