/-
  Contracts of Near with all its guards, in the program and in its model: for every row of at most 2 to the 20th points, and every point.
-/
import Derived.Test.YtkknbapcbcialaaNearI
namespace Go.Proofs.Ytkknbapcbcialaa
open Go.RowKit

/-- Near as both tell it, number by number. -/
def nq (n : Nat) (X Y : Nat → Int) (px py : Int) : Nat → Int := if rowB n X Y && pok px py then (fun j => match j with | 0 => nrL n X Y px py (legs n) | 1 => nrA n X Y px py (legs n) | 2 => nrX n X Y px py (legs n) | 3 => nrY n X Y px py (legs n) | _ => nrF n X Y px py (legs n)) else (fun j => match j with | 0 => -1 | _ => 0)
abbrev nqv (n : Nat) (X Y : Nat → Int) (px py : Int) : Value := ft (nq n X Y px py 0) (nq n X Y px py 1) (nq n X Y px py 2) (nq n X Y px py 3) (nq n X Y px py 4)
theorem nq_yes {n : Nat} {X Y : Nat → Int} {px py : Int} (h : rowB n X Y = true) (k : pok px py = true) : nqv n X Y px py = nrV n X Y px py (legs n) := by simp [nqv, nq, h, k]
theorem nq_no {n : Nat} {X Y : Nat → Int} {px py : Int} (h : rowB n X Y = false ∨ pok px py = false) : nqv n X Y px py = ft (-1) 0 0 0 0 := by rcases h with h | h <;> simp [nqv, nq, h]
theorem nq_none {X Y : Nat → Int} {px py : Int} : nqv 0 X Y px py = ft (-1) 0 0 0 0 := by
  by_cases h : rowB 0 X Y = true
  · by_cases k : pok px py = true
    · rw [nq_yes h k]; rfl
    · exact nq_no (.inr (by simpa using k))
  · exact nq_no (.inl (by simpa using h))

set_option maxHeartbeats 1000000 in
theorem near_any (a : Option Addr) (n c : Nat) (X Y : Nat → Int) (px py : Int) (w : World) (hP : Pts w a n X Y) (hn : n ≤ 1048576) :
    Calls Try.prog 12 #[.slice a n c, pt px py] w fun e w' => e = .returned (nqv n X Y px py) ∧ Bel w w' := by
  obtain ⟨sp, sr, sb⟩ := near_start w px py
  by_cases hr : rowB n X Y = true
  · by_cases hn0 : 0 < n
    · have hne : ((n : Int) == 0) = false := by simp; omega
      have hne' : ¬ (n : Int) = 0 := by omega
      by_cases hp : pok px py = true
      · rw [nq_yes hr hp]
        exact near_ok _ _ _ X Y px py _ hP hn hr hn0 hp
      · have hp : pok px py = false := by simpa using hp
        rw [nq_no (.inr hp)]
        go_enter Try.func12, Try.ntmps12
        go_wp2_with fail
        refine (rowOk_any _ _ _ X Y _ (hP.bel sb) hn).mono ?_
        rintro e w1 ⟨rfl, hb1⟩
        have p1 := (sp.bel hb1).c0
        have p2 := (sp.bel hb1).c1
        go_wp2_with fail
        refine (pointOk_any _ _ _).mono ?_
        rintro e w2 ⟨rfl, hb2⟩
        have rm := (sr.bel hb1).bel hb2
        have hB2 := bel_step (bel_step sb hb1) hb2
        clear sp sr sb hb1 hb2 p1 p2
        have HB := bel_set5 hB2 (by omega : w.heap.size ≤ w.heap.size + 1) (-1) 0 0 0 0
        have HX : Hid (Five (set5 w2 (w.heap.size + 1) (-1) 0 0 0 0) (w.heap.size + 1) (-1) 0 0 0 0) := rm.put5 (-1) 0 0 0 0
        obtain ⟨r0, hr0⟩ := rm.there 0 (by decide)
        obtain ⟨r1, hr1⟩ := rm.there 1 (by decide)
        obtain ⟨r2, hr2⟩ := rm.there 2 (by decide)
        obtain ⟨r3, hr3⟩ := rm.there 3 (by decide)
        obtain ⟨r4, hr4⟩ := rm.there 4 (by decide)
        have q0 := rm.fr 0
        have q1 := rm.fr 1
        have q2 := rm.fr 2
        have q3 := rm.fr 3
        have q4 := rm.fr 4
        clear rm
        go_wp2
        obtain ⟨_, y0, y1, y2, y3, y4, _⟩ := HX.out
        exact bodyPost_ret (v := ft (-1) 0 0 0 0) (by simp [results, Try.results12, go_sem, y0, y1, y2, y3, y4]) rfl ⟨rfl, HB⟩
    · have e0 : n = 0 := by omega
      subst e0
      rw [nq_none]
      go_enter Try.func12, Try.ntmps12
      go_wp2_with fail
      refine (rowOk_any _ _ _ X Y _ (hP.bel sb) hn).mono ?_
      rintro e w1 ⟨rfl, hb1⟩
      have rm := sr.bel hb1
      have hB1 := bel_step sb hb1
      clear sp sr sb hb1
      have HB := bel_set5 hB1 (by omega : w.heap.size ≤ w.heap.size + 1) (-1) 0 0 0 0
      have HX : Hid (Five (set5 w1 (w.heap.size + 1) (-1) 0 0 0 0) (w.heap.size + 1) (-1) 0 0 0 0) := rm.put5 (-1) 0 0 0 0
      obtain ⟨r0, hr0⟩ := rm.there 0 (by decide)
      obtain ⟨r1, hr1⟩ := rm.there 1 (by decide)
      obtain ⟨r2, hr2⟩ := rm.there 2 (by decide)
      obtain ⟨r3, hr3⟩ := rm.there 3 (by decide)
      obtain ⟨r4, hr4⟩ := rm.there 4 (by decide)
      have q0 := rm.fr 0
      have q1 := rm.fr 1
      have q2 := rm.fr 2
      have q3 := rm.fr 3
      have q4 := rm.fr 4
      clear rm
      go_wp2
      obtain ⟨_, y0, y1, y2, y3, y4, _⟩ := HX.out
      exact bodyPost_ret (v := ft (-1) 0 0 0 0) (by simp [results, Try.results12, go_sem, y0, y1, y2, y3, y4]) rfl ⟨rfl, HB⟩
  · have hr : rowB n X Y = false := by simpa using hr
    rw [nq_no (.inl hr)]
    go_enter Try.func12, Try.ntmps12
    go_wp2_with fail
    refine (rowOk_any _ _ _ X Y _ (hP.bel sb) hn).mono ?_
    rintro e w1 ⟨rfl, hb1⟩
    have rm := sr.bel hb1
    have hB1 := bel_step sb hb1
    clear sp sr sb hb1
    have HB := bel_set5 hB1 (by omega : w.heap.size ≤ w.heap.size + 1) (-1) 0 0 0 0
    have HX : Hid (Five (set5 w1 (w.heap.size + 1) (-1) 0 0 0 0) (w.heap.size + 1) (-1) 0 0 0 0) := rm.put5 (-1) 0 0 0 0
    obtain ⟨r0, hr0⟩ := rm.there 0 (by decide)
    obtain ⟨r1, hr1⟩ := rm.there 1 (by decide)
    obtain ⟨r2, hr2⟩ := rm.there 2 (by decide)
    obtain ⟨r3, hr3⟩ := rm.there 3 (by decide)
    obtain ⟨r4, hr4⟩ := rm.there 4 (by decide)
    have q0 := rm.fr 0
    have q1 := rm.fr 1
    have q2 := rm.fr 2
    have q3 := rm.fr 3
    have q4 := rm.fr 4
    clear rm
    go_wp2
    obtain ⟨_, y0, y1, y2, y3, y4, _⟩ := HX.out
    exact bodyPost_ret (v := ft (-1) 0 0 0 0) (by simp [results, Try.results12, go_sem, y0, y1, y2, y3, y4]) rfl ⟨rfl, HB⟩

end Go.Proofs.Ytkknbapcbcialaa
