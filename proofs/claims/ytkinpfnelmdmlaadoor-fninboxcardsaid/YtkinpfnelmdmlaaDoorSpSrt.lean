/-
  Contract of the model's sorting of a row by codes.
-/
import Derived.Test.YtkinpfnelmdmlaaDoorSortM
import Derived.Test.YtkinpfnelmdmlaaDoorCodC
import Derived.Test.YtkinpfnelmdmlaaDoorPtsC
import Derived.Test.YtkinpfnelmdmlaaDoorAppI
import Derived.Deep.RegionHeld3
namespace Go.Proofs.YtkinpfnelmdmlaaDoor
open Go.RowKit Go.Maps

/-- The first i of a row of numbers, as a list. -/
def lsO (o : Nat → Nat) (i : Nat) : List Int := (List.range i).map fun x => ((o x : Nat) : Int)
theorem lsO_len (o : Nat → Nat) (i : Nat) : (lsO o i).length = i := by simp [lsO]
theorem lsO_at (o : Nat → Nat) {i x : Nat} (h : x < (lsO o i).length) : (lsO o i)[x] = ((o x : Nat) : Int) := by simp [lsO]
theorem lsO_ins (o : Nat → Nat) {i l : Nat} (hl : l ≤ i) : ((lsO o i).take l ++ [(i : Int)]) ++ (lsO o i).drop l = lsO (rot (fun x => if x = i then i else o x) l i (i + 1)) (i + 1) := by
  have e0 : (lsO o i).length = i := lsO_len o i
  apply List.ext_getElem
  · simp [lsO_len]; omega
  · intro x h1 h2
    rw [lsO_at]
    by_cases c1 : x < l
    · rw [List.getElem_append_left (by simp [lsO_len]; omega), List.getElem_append_left (by simp [lsO_len]; omega), List.getElem_take, lsO_at, rot_out _ (by omega) (by omega) (Or.inl c1), if_neg (by omega)]
    · by_cases c2 : x = l
      · subst c2
        rw [List.getElem_append_left (by simp [lsO_len]; omega), List.getElem_append_right (by rw [List.length_take, lsO_len]; omega)]
        rw [rot_fst _ (by omega) (by omega), if_pos (by omega)]
        simp
      · have hx : x < i + 1 := by rw [lsO_len] at h2; exact h2
        rw [List.getElem_append_right (by simp [lsO_len]; omega), List.getElem_drop, lsO_at, rot_snd _ (by omega) (by omega), if_neg (by omega)]
        congr 2
        simp [lsO_len]; omega
theorem lsO_in64 {o : Nat → Nat} {i : Nat} (h : ∀ x, x < i → o x < i) (hi : i ≤ 1048576) : ∀ y ∈ lsO o i, In64 y := by
  intro y hy
  obtain ⟨x, hx, rfl⟩ := List.mem_map.1 hy
  have := h x (List.mem_range.1 hx)
  exact ⟨by omega, by omega⟩

end Go.Proofs.YtkinpfnelmdmlaaDoor

