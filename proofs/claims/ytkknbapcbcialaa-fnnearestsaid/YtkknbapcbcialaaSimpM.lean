/-
  What simplifying keeps of a row, as both tell it: definitions and plain lemmas.
-/
import Derived.Test.YtkknbapcbcialaaNearI
import Derived.Laws.OwnMore
import Derived.Laws.AppendOwnNone
import Derived.Deep.AppendLies
namespace Go.Proofs.Ytkknbapcbcialaa
open Go.RowKit

/-- How far the point i lies from the stretch between the ends. -/
def dI (X Y : Nat → Int) (last i : Nat) : Int := dOf (X i) (Y i) (footX (X 0) (Y 0) (X last) (Y last) (X i) (Y i)) (footY (X 0) (Y 0) (X last) (Y last) (X i) (Y i))
/-- The greatest distance of the points 1 .. k, from a start on. -/
def gD (s : Int) (X Y : Nat → Int) (last : Nat) : Nat → Int
  | 0 => s
  | k + 1 => if gD s X Y last k < dI X Y last (k + 1) then dI X Y last (k + 1) else gD s X Y last k
/-- Where it was first. -/
def gA (s : Int) (X Y : Nat → Int) (last : Nat) : Nat → Nat
  | 0 => 0
  | k + 1 => if gD s X Y last k < dI X Y last (k + 1) then k + 1 else gA s X Y last k
theorem far_same {s : Int} (h0 : 0 ≤ s) (X Y : Nat → Int) (last : Nat) : ∀ k, (gD (-1) X Y last k ≤ s → gD s X Y last k = s ∧ gA s X Y last k = 0) ∧ (s < gD (-1) X Y last k → gD s X Y last k = gD (-1) X Y last k ∧ gA s X Y last k = gA (-1) X Y last k ∧ 1 ≤ gA (-1) X Y last k ∧ gA (-1) X Y last k ≤ k)
  | 0 => ⟨fun _ => ⟨rfl, rfl⟩, fun h => by simp [gD] at h; omega⟩
  | k + 1 => by
    obtain ⟨h1, h2⟩ := far_same h0 X Y last k
    simp only [gD, gA]
    generalize dI X Y last (k + 1) = d
    by_cases c : gD (-1) X Y last k ≤ s
    · obtain ⟨e1, e2⟩ := h1 c
      rw [e1, e2]
      by_cases c2 : s < d
      · rw [if_pos c2, if_pos c2, if_pos (by omega), if_pos (by omega)]
        exact ⟨fun h => by omega, fun _ => ⟨rfl, rfl, by omega, by omega⟩⟩
      · rw [if_neg c2, if_neg c2]
        refine ⟨fun _ => ⟨rfl, rfl⟩, fun h => ?_⟩
        split at h <;> omega
    · obtain ⟨e1, e2, e3, e4⟩ := h2 (by omega)
      rw [e1, e2]
      refine ⟨fun h => ?_, fun _ => ⟨rfl, rfl, ?_, ?_⟩⟩
      · split at h <;> omega
      · split <;> omega
      · split <;> omega

/-- What is kept of n points, but for the last one. -/
def kp (s : Int) : Nat → (Nat → Int) → (Nat → Int) → Nat → List (Int × Int)
  | 0, _, _, _ => []
  | f + 1, X, Y, n => if n < 2 then [] else if gD (-1) X Y (n - 1) (n - 2) ≤ s then [(X 0, Y 0)] else
      kp s f X Y (gA (-1) X Y (n - 1) (n - 2) + 1) ++ kp s f (fun i => X (gA (-1) X Y (n - 1) (n - 2) + i)) (fun i => Y (gA (-1) X Y (n - 1) (n - 2) + i)) (n - gA (-1) X Y (n - 1) (n - 2))
theorem kp_few {s : Int} {f : Nat} {X Y : Nat → Int} {n : Nat} (h : n < 2) : kp s f X Y n = [] := by
  cases f with
  | zero => rfl
  | succ f => exact if_pos h
theorem kp_one {s : Int} {f : Nat} {X Y : Nat → Int} {n : Nat} (h : ¬ n < 2) (k : gD (-1) X Y (n - 1) (n - 2) ≤ s) : kp s (f + 1) X Y n = [(X 0, Y 0)] := (if_neg h).trans (if_pos k)
theorem kp_two {s : Int} {f : Nat} {X Y : Nat → Int} {n : Nat} (h : ¬ n < 2) (k : ¬ gD (-1) X Y (n - 1) (n - 2) ≤ s) : kp s (f + 1) X Y n =
    kp s f X Y (gA (-1) X Y (n - 1) (n - 2) + 1) ++ kp s f (fun i => X (gA (-1) X Y (n - 1) (n - 2) + i)) (fun i => Y (gA (-1) X Y (n - 1) (n - 2) + i)) (n - gA (-1) X Y (n - 1) (n - 2)) := (if_neg h).trans (if_neg k)
theorem kp_len {s : Int} (h0 : 0 ≤ s) : ∀ (f : Nat) (X Y : Nat → Int) (n : Nat), n ≤ f → (kp s f X Y n).length ≤ n - 1
  | 0, _, _, _, _ => by simp [kp]
  | f + 1, X, Y, n, hn => by
    by_cases h : n < 2
    · rw [kp_few h]; simp
    · by_cases k : gD (-1) X Y (n - 1) (n - 2) ≤ s
      · rw [kp_one h k]; simp; omega
      · rw [kp_two h k]
        obtain ⟨_, _, a1, a2⟩ := (far_same h0 X Y (n - 1) (n - 2)).2 (by omega)
        have l1 := kp_len h0 f X Y (gA (-1) X Y (n - 1) (n - 2) + 1) (by omega)
        have l2 := kp_len h0 f (fun i => X (gA (-1) X Y (n - 1) (n - 2) + i)) (fun i => Y (gA (-1) X Y (n - 1) (n - 2) + i)) (n - gA (-1) X Y (n - 1) (n - 2)) (by omega)
        rw [List.length_append]
        omega
theorem kp_head {s : Int} (h0 : 0 ≤ s) : ∀ (f : Nat) (X Y : Nat → Int) (n : Nat), n ≤ f → 2 ≤ n → ∃ t, kp s f X Y n = (X 0, Y 0) :: t
  | 0, _, _, _, h, k => by omega
  | f + 1, X, Y, n, hn, h2 => by
    have h : ¬ n < 2 := by omega
    by_cases k : gD (-1) X Y (n - 1) (n - 2) ≤ s
    · exact ⟨[], kp_one h k⟩
    · rw [kp_two h k]
      obtain ⟨_, _, a1, a2⟩ := (far_same h0 X Y (n - 1) (n - 2)).2 (by omega)
      obtain ⟨t, e⟩ := kp_head h0 f X Y (gA (-1) X Y (n - 1) (n - 2) + 1) (by omega) (by omega)
      rw [e]
      exact ⟨_, rfl⟩
/-- What is kept of a row. -/
def sl (s : Int) (f : Nat) (X Y : Nat → Int) (n : Nat) : List (Int × Int) := if n = 0 then [] else kp s f X Y n ++ [(X (n - 1), Y (n - 1))]
theorem sl_some {s : Int} {f : Nat} {X Y : Nat → Int} {n : Nat} (h : n ≠ 0) : sl s f X Y n = kp s f X Y n ++ [(X (n - 1), Y (n - 1))] := if_neg h
theorem sl_two {s : Int} (h0 : 0 ≤ s) {f : Nat} {X Y : Nat → Int} {n : Nat} (hn : n ≤ f + 1) (h : ¬ n < 2) (k : ¬ gD (-1) X Y (n - 1) (n - 2) ≤ s) :
    sl s (f + 1) X Y n = sl s f X Y (gA (-1) X Y (n - 1) (n - 2) + 1) ++ (sl s f (fun i => X (gA (-1) X Y (n - 1) (n - 2) + i)) (fun i => Y (gA (-1) X Y (n - 1) (n - 2) + i)) (n - gA (-1) X Y (n - 1) (n - 2))).tail := by
  obtain ⟨_, _, a1, a2⟩ := (far_same h0 X Y (n - 1) (n - 2)).2 (by omega)
  rw [sl_some (by omega), kp_two h k]
  generalize gA (-1) X Y (n - 1) (n - 2) = a at *
  rw [sl_some (by omega), sl_some (by omega)]
  obtain ⟨t, e⟩ := kp_head h0 f (fun i => X (a + i)) (fun i => Y (a + i)) (n - a) (by omega) (by omega)
  rw [e]
  simp [show a + (n - a - 1) = n - 1 by omega]

/-- The cells of a row of points. -/
def cellsP (ps : List (Int × Int)) : List Value := ps.flatMap fun p => [.int .i64 p.1, .int .i64 p.2]
theorem cellsP_app (a b : List (Int × Int)) : cellsP (a ++ b) = cellsP a ++ cellsP b := by simp [cellsP]
theorem cellsP_len (ps : List (Int × Int)) : (cellsP ps).length = ps.length * 2 := by
  induction ps with
  | nil => rfl
  | cons p ps ih =>
    have e : cellsP (p :: ps) = .int .i64 p.1 :: .int .i64 p.2 :: cellsP ps := by simp [cellsP]
    rw [e]
    simp [ih]
    omega
theorem cellsP_at : ∀ (ps : List (Int × Int)) (i : Nat), i < ps.length → (cellsP ps)[i * 2]? = some (.int .i64 (ps.getD i (0, 0)).1) ∧ (cellsP ps)[i * 2 + 1]? = some (.int .i64 (ps.getD i (0, 0)).2)
  | [], i, h => by simp at h
  | p :: ps, 0, _ => by simp [cellsP]
  | p :: ps, i + 1, h => by
    have := cellsP_at ps i (by simpa using h)
    have e : cellsP (p :: ps) = .int .i64 p.1 :: .int .i64 p.2 :: cellsP ps := by simp [cellsP]
    rw [e, show (i + 1) * 2 = i * 2 + 1 + 1 by omega]
    simpa using this
theorem cellsP_one (ps : List (Int × Int)) : ∀ u ∈ cellsP ps, u.oneCell' = true := by
  intro u hu
  simp only [cellsP, List.mem_flatMap] at hu
  obtain ⟨p, _, h⟩ := hu
  simp at h
  rcases h with rfl | rfl <;> rfl

/-- The slice is a row of the call's own. -/
abbrev Own (base : Nat) (w : World) (v : Value) (ps : List (Int × Int)) : Prop := w.ownsRow base 29 2 v ps.length (cellsP ps)
theorem Own.bel {base : Nat} {w w' : World} {v : Value} {ps : List (Int × Int)} (h : Own base w v ps) (hb : Bel w w') : Own base w' v ps := by
  obtain ⟨h1, h2⟩ := h
  refine ⟨h1, ?_⟩
  rcases h2 with h2 | ⟨g, cap, cur, e1, e2, e3, e4⟩
  · exact .inl h2
  · have hlt : g < w.heap.size := by
      rcases Nat.lt_or_ge g w.heap.size with h | h
      · exact h
      · rw [Array.getElem?_eq_none h] at e3; cases e3
    exact .inr ⟨g, cap, cur, e1, e2, by rw [hb.out.block g hlt]; exact e3, e4⟩
theorem Own.base {base base' : Nat} {w : World} {v : Value} {ps : List (Int × Int)} (h : Own base w v ps) (hb : base' ≤ base) : Own base' w v ps := by
  obtain ⟨h1, h2⟩ := h
  refine ⟨h1, ?_⟩
  rcases h2 with h2 | ⟨g, cap, cur, e1, e2, e3⟩
  · exact .inl h2
  · exact .inr ⟨g, cap, cur, e1, Nat.le_trans hb e2, e3⟩
theorem bel_grown {w a b : World} {row : Option Nat} (h : Bel w a) (g : a.grownBy b row) (hr : ∀ k, row = some k → w.heap.size ≤ k) : Bel w b := Below.grown h g h.out.size hr
end Go.Proofs.Ytkknbapcbcialaa
