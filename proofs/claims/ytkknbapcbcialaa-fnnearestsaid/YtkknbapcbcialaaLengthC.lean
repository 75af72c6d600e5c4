/-
  Contracts of Length, in the program and in its model: for every row of at most 2 to the 20th points.
-/
import Derived.Test.YtkknbapcbcialaaPtsC
namespace Go.Proofs.Ytkknbapcbcialaa
open Go.RowKit

/-- The length of the first k stretches. -/
def sumD (X Y : Nat → Int) : Nat → Int
  | 0 => 0
  | k + 1 => sumD X Y k + dOf (X k) (Y k) (X (k + 1)) (Y (k + 1))
theorem sumD_bd {n : Nat} {X Y : Nat → Int} (h : ∀ i, i < n → POk (X i) (Y i)) : ∀ k, k < n → 0 ≤ sumD X Y k ∧ sumD X Y k ≤ 28284272 * k
  | 0, _ => by simp [sumD]
  | k + 1, hk => by
    have h1 := sumD_bd h k (by omega)
    have h2 := dOf_bd (h k (by omega)) (h (k + 1) hk)
    simp only [sumD]
    omega
/-- Length as both tell it. -/
def lenOf (n : Nat) (X Y : Nat → Int) : Int := if rowB n X Y then sumD X Y (n - 1) else -1

theorem dist_ok (x0 y0 x1 y1 : Int) (w : World) (a : POk x0 y0) (b : POk x1 y1) :
    Calls Try.prog 21 #[pt x0 y0, pt x1 y1] w fun e w' => e = .returned (.int .i64 (dOf x0 y0 x1 y1)) ∧ Bel w w' := by
  have hd : distOf x0 y0 x1 y1 = dOf x0 y0 x1 y1 := by simp [distOf, pOk_iff.2 a, pOk_iff.2 b]
  rw [← hd]
  exact distance_any _ _ _ _ _

end Go.Proofs.Ytkknbapcbcialaa
