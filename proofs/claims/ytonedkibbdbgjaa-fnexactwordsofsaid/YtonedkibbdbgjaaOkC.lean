/-
  Contracts: what is asked of every way and of every area; at which places Ids stand.
-/
import Derived.Test.YtonedkibbdbgjaaAreaC
import Derived.Test.YtonedkibbdbgjaaAscC
namespace Go.Proofs.Ytonedkibbdbgjaa
open Go.RowKit Go.Maps

/-- At which place an Id stands last. -/
def plc (I : Nat → Int) : Nat → Int → Option Int
  | 0, _ => none
  | k + 1, y => if y = I k then some (k : Int) else plc I k y
theorem plc_some (I : Nat → Int) (x : Int) : ∀ n, (plc I n x).isSome = bP (HasI n I x)
  | 0 => (bP_false fun ⟨i, hi, _⟩ => absurd hi (Nat.not_lt_zero _)).symm
  | n + 1 => by
    simp only [plc]
    split
    · next h => exact (bP_true ⟨n, Nat.lt_succ_self _, h.symm⟩).symm
    · next h =>
      rw [plc_some I x n]
      by_cases hh : HasI n I x
      · rw [bP_true hh]
        obtain ⟨i, hi, e⟩ := hh
        exact (bP_true ⟨i, by omega, e⟩).symm
      · rw [bP_false hh]
        refine (bP_false fun ⟨i, hi, e⟩ => ?_).symm
        by_cases en : i = n
        · subst en; exact h e.symm
        · exact hh ⟨i, by omega, e⟩
theorem plc_at {I : Nat → Int} {i : Nat} : ∀ {n : Nat}, i < n → (∀ j, i < j → j < n → I j ≠ I i) → plc I n (I i) = some (i : Int)
  | 0, h, _ => absurd h (Nat.not_lt_zero _)
  | n + 1, h, hu => by
    simp only [plc]
    by_cases e : i = n
    · subst e; simp
    · rw [if_neg (fun h' => hu n (by omega) (by omega) h'.symm)]
      exact plc_at (by omega) (fun j h1 h2 => hu j h1 (by omega))

end Go.Proofs.Ytonedkibbdbgjaa
