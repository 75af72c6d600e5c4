/-
  Who is reached within a limit, in the order of times: the list that both make.
-/
import Derived.Test.YtdlgehnoiaoneaaGreatDoorXA
import Derived.Test.YtdlgehnoiaoneaaGreatDoorRtM
namespace Go.Proofs.YtdlgehnoiaoneaaGreatDoor

/-- Numbers below n that are reached within the limit, the least times first, of the same the first first. -/
structure WI (K : Nat → Int) (lim : Int) (n : Nat) (l : List Nat) : Prop where
 pw : l.Pairwise (Ro K)
 mem : ∀ i, i ∈ l ↔ i < n ∧ 0 ≤ K i ∧ K i ≤ lim
 len : l.length ≤ n
theorem pw_eq {α : Type} {r : α → α → Prop} (irr : ∀ x, ¬ r x x) (tr : ∀ x y z, r x y → r y z → r x z) : ∀ a b : List α, a.Pairwise r → b.Pairwise r → (∀ x, x ∈ a ↔ x ∈ b) → a = b
 | [], [], _, _, _ => rfl
 | [], y :: b, _, _, h => absurd ((h y).2 (List.mem_cons_self ..)) (by simp)
 | x :: a, [], _, _, h => absurd ((h x).1 (List.mem_cons_self ..)) (by simp)
 | x :: a, y :: b, ha, hb, h => by
  obtain ⟨ha1, ha2⟩ := List.pairwise_cons.1 ha
  obtain ⟨hb1, hb2⟩ := List.pairwise_cons.1 hb
  have e : x = y := by
   rcases List.mem_cons.1 ((h x).1 (List.mem_cons_self ..)) with e | hx
   ·exact e
   rcases List.mem_cons.1 ((h y).2 (List.mem_cons_self ..)) with e | hy
   ·exact e.symm
   exact absurd (tr _ _ _ (ha1 y hy) (hb1 x hx)) (irr x)
  subst e
  rw [pw_eq irr tr a b ha2 hb2 fun z => ⟨fun hz => ?_, fun hz => ?_⟩]
  ·rcases List.mem_cons.1 ((h z).1 (List.mem_cons_of_mem _ hz)) with e | hz'
   ·subst e; exact absurd (ha1 _ hz) (irr _)
   ·exact hz'
  ·rcases List.mem_cons.1 ((h z).2 (List.mem_cons_of_mem _ hz)) with e | hz'
   ·subst e; exact absurd (hb1 _ hz) (irr _)
   ·exact hz'
theorem WI.one {K : Nat → Int} {lim : Int} {n : Nat} {a b : List Nat} (h : WI K lim n a) (g : WI K lim n b) : a = b :=
 pw_eq (fun _ e => e.irr) (fun _ _ _ e f => e.trans f) a b h.pw g.pw fun i => (h.mem i).trans (g.mem i).symm
theorem WI.nil (K : Nat → Int) (lim : Int) : WI K lim 0 [] := ⟨List.Pairwise.nil, fun i => ⟨fun h => by simp at h, fun h => absurd h.1 (Nat.not_lt_zero _)⟩, Nat.le_refl _⟩
/-- One more that is not reached so. -/
theorem WI.skip {K : Nat → Int} {lim : Int} {n : Nat} {l : List Nat} (h : WI K lim n l) (hk : ¬ (0 ≤ K n ∧ K n ≤ lim)) : WI K lim (n + 1) l :=
 ⟨h.pw, fun i => ⟨fun hi => by have := (h.mem i).1 hi; exact ⟨by omega, this.2⟩, fun hi => by
  refine (h.mem i).2 ⟨?_, hi.2⟩
  by_cases e : i = n
  ·subst e; exact absurd hi.2 hk
  ·omega⟩, Nat.le_succ_of_le h.len⟩
/-- One more that is. -/
theorem WI.put {K : Nat → Int} {lim : Int} {n p : Nat} {l : List Nat} (h : WI K lim n l) (hk : 0 ≤ K n ∧ K n ≤ lim) (hp : p ≤ l.length) (h1 : p = 0 ∨ ∃ x, l[p - 1]? = some x ∧ K x ≤ K n) (h2 : ∀ x ∈ l.drop p, K n < K x) : WI K lim (n + 1) (l.take p ++ n :: l.drop p) := by
 have hlt : ∀ x ∈ l, x < n := fun x hx => ((h.mem x).1 hx).1
 have hT : ∀ x ∈ l.take p, Ro K x n := by
  intro x hx
  have hxl := List.mem_of_mem_take hx
  rcases h1 with rfl | ⟨y, hy, hyn⟩
  ·simp at hx
  obtain ⟨i, hi, rfl⟩ := List.getElem_of_mem hx
  rw [List.length_take] at hi
  rw [List.getElem_take] at *
  have hp1 : p - 1 < l.length := by omega
  have hyl : l[p - 1] = y := by rw [List.getElem?_eq_getElem hp1] at hy; exact Option.some.inj hy
  by_cases e : i = p - 1
  ·subst e
   rw [hyl]
   exact ro_lt (hlt y (by rw [← hyl]; exact List.getElem_mem _)) (by omega)
  ·have := List.pairwise_iff_getElem.1 h.pw i (p - 1) (by omega) hp1 (by omega)
   rw [hyl] at this
   exact this.trans (ro_lt (hlt y (by rw [← hyl]; exact List.getElem_mem _)) (by omega))
 have hD : ∀ x ∈ l.drop p, Ro K n x := fun x hx => ro_gt (h2 x hx)
 refine ⟨List.pairwise_append.2 ⟨h.pw.sublist (List.take_sublist _ _), List.pairwise_cons.2 ⟨hD, h.pw.sublist (List.drop_sublist _ _)⟩, fun a ha b hb => ?_⟩, fun i => ?_, ?_⟩
 ·rcases List.mem_cons.1 hb with rfl | hb
  ·exact hT a ha
  ·exact (hT a ha).trans (hD b hb)
 ·have hm : i ∈ l ↔ i ∈ l.take p ∨ i ∈ l.drop p := by
   conv => lhs; rw [← List.take_append_drop p l]
   exact List.mem_append
  rw [List.mem_append, List.mem_cons]
  constructor
  ·rintro (hi | rfl | hi)
   ·have := (h.mem i).1 (hm.2 (.inl hi)); exact ⟨by omega, this.2⟩
   ·exact ⟨by omega, hk⟩
   ·have := (h.mem i).1 (hm.2 (.inr hi)); exact ⟨by omega, this.2⟩
  ·intro hi
   by_cases e : i = n
   ·exact .inr (.inl e)
   ·rcases hm.1 ((h.mem i).2 ⟨by omega, hi.2⟩) with h3 | h3
    ·exact .inl h3
    ·exact .inr (.inr h3)
 ·have := h.len
  rw [List.length_append, List.length_cons, List.length_take, List.length_drop]
  omega
/-- Of the first k numbers of an order those that are reached so. -/
def wiF (K : Nat → Int) (lim : Int) (o : Nat → Nat) : Nat → List Nat
 | 0 => []
 | k + 1 => wiF K lim o k ++ (if 0 ≤ K (o k) ∧ K (o k) ≤ lim then [o k] else [])
theorem wiF_yes {K : Nat → Int} {lim : Int} {o : Nat → Nat} {k : Nat} (h : 0 ≤ K (o k) ∧ K (o k) ≤ lim) : wiF K lim o (k + 1) = wiF K lim o k ++ [o k] := by
 show wiF K lim o k ++ _ = _
 rw [if_pos h]
theorem wiF_no {K : Nat → Int} {lim : Int} {o : Nat → Nat} {k : Nat} (h : ¬ (0 ≤ K (o k) ∧ K (o k) ≤ lim)) : wiF K lim o (k + 1) = wiF K lim o k := by
 show wiF K lim o k ++ _ = _
 rw [if_neg h, List.append_nil]
theorem wiF_len (K : Nat → Int) (lim : Int) (o : Nat → Nat) : ∀ k, (wiF K lim o k).length ≤ k
 | 0 => Nat.le_refl _
 | k + 1 => by
  have := wiF_len K lim o k
  show (wiF K lim o k ++ _).length ≤ _
  rw [List.length_append]
  split <;> simp <;> omega
theorem wiF_mem (K : Nat → Int) (lim : Int) (o : Nat → Nat) : ∀ k i, i ∈ wiF K lim o k ↔ ∃ j, j < k ∧ o j = i ∧ 0 ≤ K i ∧ K i ≤ lim
 | 0, i => ⟨fun h => (nomatch h), fun ⟨_, h, _⟩ => absurd h (Nat.not_lt_zero _)⟩
 | k + 1, i => by
  show i ∈ wiF K lim o k ++ _ ↔ _
  rw [List.mem_append, wiF_mem K lim o k i]
  constructor
  ·rintro (⟨j, h1, h2⟩ | h)
   ·exact ⟨j, by omega, h2⟩
   ·split at h
    ·rename_i hc
     rw [List.mem_singleton] at h
     subst h
     exact ⟨k, by omega, rfl, hc⟩
    ·cases h
  ·rintro ⟨j, h1, rfl, h3⟩
   by_cases e : j = k
   ·subst e
    exact .inr (by rw [if_pos h3]; exact List.mem_singleton.2 rfl)
   ·exact .inl ⟨j, by omega, rfl, h3⟩
theorem wiF_pw {K : Nat → Int} {lim : Int} {o : Nat → Nat} {n : Nat} (h : Bk K o 0 n) : ∀ k, k ≤ n → (wiF K lim o k).Pairwise (Ro K)
 | 0, _ => List.Pairwise.nil
 | k + 1, hk => by
  show (wiF K lim o k ++ _).Pairwise _
  refine List.pairwise_append.2 ⟨wiF_pw h k (by omega), ?_, fun a ha b hb => ?_⟩
  ·split
   ·exact List.pairwise_singleton _ _
   ·exact List.Pairwise.nil
  ·split at hb
   ·rw [List.mem_singleton] at hb
    subst hb
    obtain ⟨j, h1, rfl, _⟩ := (wiF_mem K lim o k a).1 ha
    exact h.1 j k (Nat.zero_le _) h1 (by omega)
   ·cases hb
theorem wiF_wi {K : Nat → Int} {lim : Int} {o : Nat → Nat} {n : Nat} (h : Bk K o 0 n) : WI K lim n (wiF K lim o n) :=
 ⟨wiF_pw h n (Nat.le_refl _), fun i => (wiF_mem K lim o n i).trans ⟨fun ⟨j, h1, h2, h3⟩ => ⟨by subst h2; exact (h.2 j (Nat.zero_le _) h1).2, h3⟩, fun ⟨h1, h2⟩ => by
  obtain ⟨j, g1, g2⟩ := h.onto i h1
  exact ⟨j, g1, g2, h2⟩⟩, wiF_len K lim o n⟩
end Go.Proofs.YtdlgehnoiaoneaaGreatDoor
