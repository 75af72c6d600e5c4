/-
  Contracts of what is asked of every node and of every way: for every list.
-/
import Derived.Test.YtonedkibbdbgjaaKeyC
import Derived.Deep.LoopGhost
namespace Go.Proofs.Ytonedkibbdbgjaa
open Go.RowKit Go.Maps

/-- The program's chart as a value. -/
abbrev chV (an : Option Addr) (nn cn : Nat) (aw : Option Addr) (nw cw : Nat) (aa : Option Addr) (na ca : Nat) (bN bW : Nat) : Value :=
  .agg #[.slice an nn cn, .slice aw nw cw, .slice aa na ca, .map (some bN), .map (some bW)]

theorem wayP_few {n : Nat} {I : Nat → Int} {ns : List Int} (h : ¬ (2 ≤ ns.length ∧ ns.length ≤ 2000)) : bP (WayP n I ns) = false := bP_false fun hh => h ⟨hh.1, hh.2.1⟩
theorem wayP_no {n : Nat} {I : Nat → Int} {ns : List Int} {k : Nat} (hk : k < ns.length) (h : ¬ HasI n I ns[k]) : bP (WayP n I ns) = false := bP_false fun hh => h (hh.2.2 k hk).1
theorem wayP_two {n : Nat} {I : Nat → Int} {ns : List Int} {m : Nat} (hk : m + 1 < ns.length) (h : ns[m + 1] = ns[m]) : bP (WayP n I ns) = false :=
  bP_false fun hh => (hh.2.2 (m + 1) hk).2 (Nat.succ_pos _) (by simpa using h)

end Go.Proofs.Ytonedkibbdbgjaa
