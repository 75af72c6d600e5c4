/-
  How deep rings lie in each other: the model as a function of lists.
-/
import Derived.Test.YtkpgcnfokohhiaaRngM
namespace Go.Proofs.Ytkpgcnfokohhiaa
open Go.RowKit

/-- Ring k has the first point of ring i inside. -/
def inK (l : List RingD) (i k : Nat) : Bool := decide (k ≠ i) && decide (insR [l.getD k ⟨[], false⟩] (lx (l.getD i ⟨[], false⟩).row 0) (ly (l.getD i ⟨[], false⟩).row 0) = 1)
def nsT (l : List RingD) (i : Nat) : Nat → Nat
  | 0 => 0
  | k + 1 => nsT l i k + (inK l i k).toNat
def nst (l : List RingD) (i : Nat) : Nat := if (l.getD i ⟨[], false⟩).row.length = 0 then 0 else nsT l i l.length
theorem nsT_le (l : List RingD) (i : Nat) : ∀ k, nsT l i k ≤ k
  | 0 => Nat.le_refl _
  | k + 1 => by
    have h1 := nsT_le l i k
    have h2 : (inK l i k).toNat ≤ 1 := by cases inK l i k <;> decide
    simp only [nsT]; omega
theorem nst_le (l : List RingD) (i : Nat) : nst l i ≤ l.length := by
  unfold nst
  split
  · exact Nat.zero_le _
  · exact nsT_le _ _ _
theorem nst_zero {l : List RingD} {i : Nat} (h : i < l.length) (h0 : l[i].row.length = 0) : nst l i = 0 := by
  unfold nst
  rw [if_pos (by simp [h, h0])]
theorem nst_some {l : List RingD} {i : Nat} (h : i < l.length) (h0 : l[i].row.length ≠ 0) : nst l i = nsT l i l.length := by
  unfold nst
  rw [if_neg (by simp [h]; exact fun e => h0 (by simp [e]))]
theorem inK_same (l : List RingD) (i : Nat) : inK l i i = false := by simp [inK]
theorem inK_at {l : List RingD} {i k : Nat} (hi : i < l.length) (hk : k < l.length) (hne : k ≠ i) : inK l i k = decide (insR [l[k]] (lx l[i].row 0) (ly l[i].row 0) = 1) := by
  simp [inK, hi, hk, hne]
def nstTo (l : List RingD) (k : Nat) : List Int := (List.range k).map fun i => ((nst l i : Nat) : Int)
theorem nstTo_len (l : List RingD) (k : Nat) : (nstTo l k).length = k := by simp [nstTo]
theorem nstTo_succ (l : List RingD) (k : Nat) : nstTo l (k + 1) = nstTo l k ++ [((nst l k : Nat) : Int)] := by simp [nstTo, List.range_succ]
/-- Nesting as both tell it. -/
def nstQ (l : List RingD) : List Int := if rgsB l then nstTo l l.length else []
theorem nstQ_in (l : List RingD) : ∀ y ∈ nstQ l, In64 y := by
  intro y hy
  unfold nstQ at hy
  split at hy
  · rename_i h
    obtain ⟨i, _, rfl⟩ := List.mem_map.1 hy
    have h1 := nst_le l i
    have h2 := (rgsB_out h).1
    exact ⟨by omega, by omega⟩
  · exact nomatch hy
theorem nstQ_len (l : List RingD) : (nstQ l).length ≤ l.length := by
  unfold nstQ
  split
  · rw [nstTo_len]; exact Nat.le_refl _
  · exact Nat.zero_le _

/-- One ring of a list, as a list of its own. -/
theorem Sl.one {w : World} {b off : Nat} {l : List RingD} {f : Nat → List Nat} (hb : b < w.heap.size) (hx : ∀ i (h : i < l.length), RingE w b (off + i * 2) l[i] (f i)) {k : Nat} (hk : k < l.length) :
    RingL w (some ⟨b, off + k * 2, none⟩) [l[k]] (b :: (List.range 1).flatMap fun _ => f k) :=
  .inr ⟨b, off + k * 2, fun _ => f k, rfl, hb, rfl, fun i hi => by
    obtain rfl : i = 0 := by simp at hi; exact hi
    simpa using hx k hk⟩
theorem rgs_one {l : List RingD} (h : rgsB l = true) {k : Nat} (hk : k < l.length) : rgsB [l[k]] = true := by
  simp only [rgsB, Bool.and_eq_true, List.all_eq_true] at h
  simp [rgsB, h.2 _ (List.getElem_mem hk)]
end Go.Proofs.Ytkpgcnfokohhiaa
