/-
  The tiles of a box: plain mathematics, and the list of them.
-/
import Derived.Test.YtkknbapcbcialaaTilC
import Derived.Test.YtkknbapcbcialaaTilD
namespace Go.Proofs.Ytkknbapcbcialaa
open Go.RowKit Go.Maps

def bokB (q : BoxD) : Bool := pok q.a q.b && (pok q.c q.d && (decide (q.a ≤ q.c) && decide (q.b ≤ q.d)))
theorem bok_out {q : BoxD} (h : bokB q = true) : -10000000 ≤ q.a ∧ q.a ≤ q.c ∧ q.c ≤ 10000000 ∧ -10000000 ≤ q.b ∧ q.b ≤ q.d ∧ q.d ≤ 10000000 := by
  simp only [bokB, pok, cok, Bool.and_eq_true, decide_eq_true_eq] at h
  omega
/-- The first tile along, as the model reckons it. -/
theorem tlW_mod {z lo : Int} (hz : zmB z = true) (_h : 1 ≤ lo + 16777216) (hr : (lo + 16777216) % (zS z : Int) = 0) : tlW z lo = (lo + 16777216) / (zS z : Int) - 1 ∧ 0 < (lo + 16777216) / (zS z : Int) := by
  obtain ⟨_, s0, _⟩ := zNS hz
  unfold tlW
  have e := Int.mul_ediv_add_emod (lo + 16777216) (zS z : Int)
  have hs : (0 : Int) < (zS z : Int) := by omega
  generalize (zS z : Int) = s at *
  generalize (lo + 16777216) / s = a at *
  have e' : lo + 16777215 = (s - 1) + s * (a - 1) := by rw [Int.mul_sub, Int.mul_one]; omega
  have ha : 0 < a := by
    rcases Int.lt_or_le 0 a with h | h
    · exact h
    · have := Int.mul_le_mul_of_nonneg_left h (Int.le_of_lt hs); rw [Int.mul_zero] at this; omega
  refine ⟨?_, ha⟩
  rw [e', Int.add_mul_ediv_left _ _ (by omega), Int.ediv_eq_zero_of_lt (by omega) (by omega)]
  omega
theorem tlW_not {z lo : Int} (hz : zmB z = true) (hr : ¬ (lo + 16777216) % (zS z : Int) = 0) : tlW z lo = (lo + 16777216) / (zS z : Int) := by
  obtain ⟨_, s0, _⟩ := zNS hz
  unfold tlW
  have e := Int.mul_ediv_add_emod (lo + 16777216) (zS z : Int)
  have hs : (0 : Int) < (zS z : Int) := by omega
  have r0 := Int.emod_nonneg (lo + 16777216) (show (zS z : Int) ≠ 0 by omega)
  have r1 := Int.emod_lt_of_pos (lo + 16777216) hs
  generalize (zS z : Int) = s at *
  generalize (lo + 16777216) % s = r at *
  generalize (lo + 16777216) / s = a at *
  have e' : lo + 16777215 = (r - 1) + s * a := by omega
  rw [e', Int.add_mul_ediv_left _ _ (by omega), Int.ediv_eq_zero_of_lt (by omega) (by omega)]
  omega
theorem tl_bd {z lo hi : Int} (hz : zmB z = true) (h0 : -10000000 ≤ lo) (h1 : lo ≤ hi) (h2 : hi ≤ 10000000) : 0 ≤ tlW z lo ∧ tlW z lo ≤ tlE z hi ∧ tlE z hi < zN z ∧ tlE z hi < 1024 := by
  obtain ⟨e, s0, n0, n1, _⟩ := zNS hz
  unfold tlW tlE
  have hs : (0 : Int) < (zS z : Int) := by omega
  have a1 : (hi + 16777216) / (zS z : Int) < (zN z : Int) := Int.ediv_lt_of_lt_mul hs (by rw [← Int.natCast_mul, e]; omega)
  refine ⟨Int.ediv_nonneg (by omega) (by omega), Int.ediv_le_ediv hs (by omega), a1, by omega⟩

/-- How many there are along. -/
def tlN (z lo hi : Int) : Nat := (tlE z hi - tlW z lo + 1).toNat
theorem tlN_int {z lo hi : Int} (hz : zmB z = true) (h0 : -10000000 ≤ lo) (h1 : lo ≤ hi) (h2 : hi ≤ 10000000) : (tlN z lo hi : Int) = tlE z hi - tlW z lo + 1 ∧ 0 < tlN z lo hi ∧ tlN z lo hi ≤ 1024 := by
  have := tl_bd hz h0 h1 h2
  unfold tlN
  omega
def tlF (z w s : Int) (W k : Nat) : TileD := ⟨z, w + ((k % W : Nat) : Int), s + ((k / W : Nat) : Int)⟩
def tlT (z w s : Int) (W n : Nat) : List TileD := (List.range n).map (tlF z w s W)
theorem tlT_len (z w s : Int) (W n : Nat) : (tlT z w s W n).length = n := by simp [tlT]
theorem tlT_zero (z w s : Int) (W : Nat) : tlT z w s W 0 = [] := rfl
theorem tlT_step {z w s : Int} {W j i : Nat} (hi : i < W) : tlT z w s W (j * W + i + 1) = tlT z w s W (j * W + i) ++ [⟨z, w + (i : Int), s + (j : Int)⟩] := by
  unfold tlT
  rw [List.range_succ, List.map_append]
  have e1 : (j * W + i) % W = i := by rw [Nat.mul_comm, Nat.mul_add_mod]; exact Nat.mod_eq_of_lt hi
  have e2 : (j * W + i) / W = j := by rw [Nat.mul_comm, Nat.mul_add_div (by omega), Nat.div_eq_of_lt hi, Nat.add_zero]
  simp [tlF, e1, e2]
/-- The tiles of a box, as both tell them. -/
def tlQ (q : BoxD) (z : Int) : List TileD :=
  if bokB q = true ∧ zmB z = true ∧ tlN z q.a q.c * tlN z q.b q.d ≤ 400 then tlT z (tlW z q.a) (tlW z q.b) (tlN z q.a q.c) (tlN z q.b q.d * tlN z q.a q.c) else []
theorem tlQ_bok {q : BoxD} {z : Int} (h : bokB q = false) : tlQ q z = [] := if_neg fun hh => by rw [h] at hh; exact Bool.false_ne_true hh.1
theorem tlQ_zm {q : BoxD} {z : Int} (h : zmB z = false) : tlQ q z = [] := if_neg fun hh => by rw [h] at hh; exact Bool.false_ne_true hh.2.1
theorem tlQ_many {q : BoxD} {z : Int} (h : 400 < tlN z q.a q.c * tlN z q.b q.d) : tlQ q z = [] := if_neg fun hh => by have := hh.2.2; omega
theorem tlQ_yes {q : BoxD} {z : Int} (h : bokB q = true) (hz : zmB z = true) (hm : tlN z q.a q.c * tlN z q.b q.d ≤ 400) : tlQ q z = tlT z (tlW z q.a) (tlW z q.b) (tlN z q.a q.c) (tlN z q.b q.d * tlN z q.a q.c) := if_pos ⟨h, hz, hm⟩
theorem tlQ_len (q : BoxD) (z : Int) : (tlQ q z).length ≤ 400 := by
  unfold tlQ
  split
  · next h => rw [tlT_len, Nat.mul_comm]; exact h.2.2
  · simp

/-- One plain element more. -/
theorem Gr.add1 {α : Type} {q : Nat} {E : Elem α} {P : α → Prop} {cs : α → List Value} (hF : Flat q E P cs) {T : TypeId} {lo : Nat} {w0 w2 w3 : World} {v v' : Value} {l : List α} {R : Nat → List Value} {d : α} (h : Gr q (flatV P cs) T lo w0 v l R (fun _ => []))
    (h02 : Bel w0 w2) (hp : P d) (hlo : lo ≤ w0.heap.size) (ho : w3.ownsRow lo T q v' (l.length + 1) (recs R l.length ++ cs d)) (hg : w2.grownBy w3 v.ownBlock) (hat : v'.ownBlock = v.ownBlock ∨ v'.ownBlock = some w2.heap.size) :
    ∃ R', Gr q (flatV P cs) T lo w3 v' (l ++ [d]) R' (fun _ => []) := by
  have := Gr.add hF.stays h (Bel.refl w0) h02 (vs := cs d) (d := d) (bs := []) (show flatV P cs w0 (cs d) d [] from ⟨rfl, hp, rfl⟩) (Fresh.nil w0 w0) hlo ho hg hat
  have e : updF (fun _ : Nat => ([] : List Nat)) l.length [] = fun _ => [] := by funext i; unfold updF; split <;> rfl
  rw [e] at this
  exact ⟨_, this⟩
theorem hatT {v : Value} {g n c H : Nat} (h : v.ownBlock = some g ∨ g = H) : (Value.slice (some ⟨g, 0, none⟩) n c).ownBlock = v.ownBlock ∨ (Value.slice (some ⟨g, 0, none⟩) n c).ownBlock = some H := by
  rcases h with h | h
  · exact .inl h.symm
  · exact .inr (by rw [h]; rfl)
end Go.Proofs.Ytkknbapcbcialaa
