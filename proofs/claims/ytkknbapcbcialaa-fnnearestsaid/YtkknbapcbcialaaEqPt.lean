/-
  Points held against each other with == and !=.
-/
import Derived.Test.YtkknbapcbcialaaMem
namespace Go.Proofs.Ytkknbapcbcialaa
open Go.RowKit

theorem ptEq (x y x' y' : Int) (w : World) : Sem.run Try.prog (binOp .eql 29 (.agg #[.int .i64 x, .int .i64 y]) (.agg #[.int .i64 x', .int .i64 y'])) w = .ok (.bool (decide (x = x') && decide (y = y'))) w := by
  by_cases h1 : x = x' <;> by_cases h2 : y = y' <;> go_simp
theorem ptNe (x y x' y' : Int) (w : World) : Sem.run Try.prog (binOp .neq 29 (.agg #[.int .i64 x, .int .i64 y]) (.agg #[.int .i64 x', .int .i64 y'])) w = .ok (.bool (!(decide (x = x') && decide (y = y')))) w := by
  by_cases h1 : x = x' <;> by_cases h2 : y = y' <;> go_simp
theorem pt_same {x y x' y' : Int} (h : x = x' ∧ y = y') : (decide (x = x') && decide (y = y')) = true := by simp [h.1, h.2]
theorem pt_diff {x y x' y' : Int} (h : ¬ (x = x' ∧ y = y')) : (decide (x = x') && decide (y = y')) = false := by
  rw [Bool.and_eq_false_iff, decide_eq_false_iff_not, decide_eq_false_iff_not]
  rcases Classical.em (x = x') with h1 | h1
  · exact .inr fun h2 => h ⟨h1, h2⟩
  · exact .inl h1
end Go.Proofs.Ytkknbapcbcialaa
