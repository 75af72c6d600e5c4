/-
  No cell of these rows narrows 'for every input' (looked for: loops, veiled, ifaces, maps, wideKeys, modest, calm, conditions, laid).
  DERIVED. THE GIVEN ROWS OF THIS SEAT. 4 by the template 'for every input the law returns true; each argument reads behind the call as it read before'; 0 by the template 'total and deterministic' (their statements: YtelaljcglhmmnaaTotals.lean).
  GIVEN WITH THE SEED: the statements are not yours to turn. If you find one false, say at which input.
  Laid BY PROGRAM, IN A SANDBOX (cutbox-rows.mjs): the forced cells as the released guide's own fill.sh prints them over the translation 78aa86c25c37cc4f… (all of the seat's roots in one cut). By AI agents, Wed Nov 11 2026. No macro, syntax, notation, axiom, sorry.
-/
import Derived.Test.YtelaljcglhmmnaaChecked
import GoSem.Claim
import GoSem.ClaimJoined
import GoSem.ClaimMapViews
import Derived.JoinedTies
import Derived.KernelRfl
namespace Go.Proofs.Ytelaljcglhmmnaa
/- THE CELL 'sum', in the pinned program and in every row, IS THE sha256 OF THE DUMP (.gsa) THAT YtelaljcglhmmnaaProg.lean LOADS. Nothing in Lean hashes anything: it is a label: what it is worth is what the hold of that sum in a sandbox is worth. -/
noncomputable def Try.pinned : Pinned := { name := "ytelaljcglhmmnaa", sum := "78aa86c25c37cc4f31c1f6c1013b99c8b93b35160a0a33be3db2341c2f22d96f", checked := Try.checked }
namespace Rows
def none {H : Type} : Left H := { results := [], args := [] }

/-- 'laws.FnRootBounds': WHATEVER THE INPUT: true; the input reads as it did. -/
def fnRootBoundsSpec : ChangeSpec := { name := "fnRootBounds", fn := fun _ => fun
  | [d] => { results := [.lit (.bool true)], args := [d] }
  | _ => none }
def fnRootBoundsRow : OpenClaim := { program := "ytelaljcglhmmnaa", sum := "78aa86c25c37cc4f31c1f6c1013b99c8b93b35160a0a33be3db2341c2f22d96f", func := "loop.example/g00024/laws.FnRootBounds", spec := "fnRootBounds", apart := false }
def FnRootBoundsSaid : Prop := fnRootBoundsRow.holds Try.pinned (OpenSpec.ofChange fnRootBoundsSpec)

/-- ITS FALSE NEIGHBOUR: 'it returns false'. Refute it at one input. -/
def fnRootBoundsWrong : ChangeSpec := { name := "fnRootBounds", fn := fun _ => fun
  | [d] => { results := [.lit (.bool false)], args := [d] }
  | _ => none }
def FnRootBoundsWrongFalsely : Prop := fnRootBoundsRow.holds Try.pinned (OpenSpec.ofChange fnRootBoundsWrong)

/-- 'laws.FnTurns': WHATEVER THE INPUT: true; the input reads as it did. -/
def fnTurnsSpec : ChangeSpec := { name := "fnTurns", fn := fun _ => fun
  | [d] => { results := [.lit (.bool true)], args := [d] }
  | _ => none }
def fnTurnsRow : OpenClaim := { program := "ytelaljcglhmmnaa", sum := "78aa86c25c37cc4f31c1f6c1013b99c8b93b35160a0a33be3db2341c2f22d96f", func := "loop.example/g00024/laws.FnTurns", spec := "fnTurns", apart := false }
def FnTurnsSaid : Prop := fnTurnsRow.holds Try.pinned (OpenSpec.ofChange fnTurnsSpec)

/-- ITS FALSE NEIGHBOUR: 'it returns false'. Refute it at one input. -/
def fnTurnsWrong : ChangeSpec := { name := "fnTurns", fn := fun _ => fun
  | [d] => { results := [.lit (.bool false)], args := [d] }
  | _ => none }
def FnTurnsWrongFalsely : Prop := fnTurnsRow.holds Try.pinned (OpenSpec.ofChange fnTurnsWrong)

/-- 'laws.FnNearest': WHATEVER THE INPUT: true; the input reads as it did. -/
def fnNearestSpec : ChangeSpec := { name := "fnNearest", fn := fun _ => fun
  | [d] => { results := [.lit (.bool true)], args := [d] }
  | _ => none }
def fnNearestRow : OpenClaim := { program := "ytelaljcglhmmnaa", sum := "78aa86c25c37cc4f31c1f6c1013b99c8b93b35160a0a33be3db2341c2f22d96f", func := "loop.example/g00024/laws.FnNearest", spec := "fnNearest", apart := false }
def FnNearestSaid : Prop := fnNearestRow.holds Try.pinned (OpenSpec.ofChange fnNearestSpec)

/-- ITS FALSE NEIGHBOUR: 'it returns false'. Refute it at one input. -/
def fnNearestWrong : ChangeSpec := { name := "fnNearest", fn := fun _ => fun
  | [d] => { results := [.lit (.bool false)], args := [d] }
  | _ => none }
def FnNearestWrongFalsely : Prop := fnNearestRow.holds Try.pinned (OpenSpec.ofChange fnNearestWrong)

/-- 'laws.FnSimple': WHATEVER THE INPUT: true; the input reads as it did. -/
def fnSimpleSpec : ChangeSpec := { name := "fnSimple", fn := fun _ => fun
  | [d] => { results := [.lit (.bool true)], args := [d] }
  | _ => none }
def fnSimpleRow : OpenClaim := { program := "ytelaljcglhmmnaa", sum := "78aa86c25c37cc4f31c1f6c1013b99c8b93b35160a0a33be3db2341c2f22d96f", func := "loop.example/g00024/laws.FnSimple", spec := "fnSimple", recurses := true, apart := false }
def FnSimpleSaid : Prop := fnSimpleRow.holds Try.pinned (OpenSpec.ofChange fnSimpleSpec)

/-- ITS FALSE NEIGHBOUR: 'it returns false'. Refute it at one input. -/
def fnSimpleWrong : ChangeSpec := { name := "fnSimple", fn := fun _ => fun
  | [d] => { results := [.lit (.bool false)], args := [d] }
  | _ => none }
def FnSimpleWrongFalsely : Prop := fnSimpleRow.holds Try.pinned (OpenSpec.ofChange fnSimpleWrong)

/- THE SECOND FORM. 'bulk': how many values and letters a reading holds, each counted each time it is reached (what is shared counts as often as it is met; a slice's spare places count too). A statement '..UptoSaid' is the law's where the arguments, and the package variables that the reading takes, are together of bulk at most 1048576: NARROWER than '..Said'. Prove '..Said' where nothing that the law and all that it calls make is longer than what came in: it says more and counts as full. Else prove '..UptoSaid'. A law counts once. -/
mutual
def uptoBulk {H : Type} : DataW H → Nat
  | .lit (.string bytes) => bytes.length + 1
  | .lit _ => 1
  | .nil => 1
  | .ptr d => uptoBulk d + 1
  | .slice elems spare => uptoBulkAll elems + uptoBulkAll spare + 1
  | .agg parts => uptoBulkAll parts + 1
  | .iface _ d => uptoBulk d + 1
  | .map entries => uptoBulkEntries entries + 1
  | .held _ => 1
def uptoBulkAll {H : Type} : List (DataW H) → Nat
  | [] => 0
  | d :: r => uptoBulk d + uptoBulkAll r
def uptoBulkEntries {H : Type} : List (Lit × DataW H) → Nat
  | [] => 0
  | x :: r => uptoBulkEntry x + uptoBulkEntries r
def uptoBulkEntry {H : Type} : Lit × DataW H → Nat
  | (.string bytes, d) => bytes.length + uptoBulk d + 1
  | (_, d) => uptoBulk d + 1
 end
def uptoSmall : (H : Type) → List (DataW H) → Bool := fun _ ds => decide (uptoBulkAll ds ≤ 1048576)
def OpenSpec.upto (s : _root_.Go.ChangeSpec) : _root_.Go.OpenSpec := { _root_.Go.OpenSpec.ofChange s with cond := some uptoSmall }

/-- 'laws.FnRootBounds', WHERE WHAT IT READS IS OF BULK AT MOST 1048576: true; the input reads as it did. -/
def fnRootBoundsUptoRow : OpenClaim := { program := "ytelaljcglhmmnaa", sum := "78aa86c25c37cc4f31c1f6c1013b99c8b93b35160a0a33be3db2341c2f22d96f", func := "loop.example/g00024/laws.FnRootBounds", spec := "fnRootBounds", apart := false, narrowed := true }
def FnRootBoundsUptoSaid : Prop := fnRootBoundsUptoRow.holds Try.pinned (OpenSpec.upto fnRootBoundsSpec)

/-- 'laws.FnTurns', WHERE WHAT IT READS IS OF BULK AT MOST 1048576: true; the input reads as it did. -/
def fnTurnsUptoRow : OpenClaim := { program := "ytelaljcglhmmnaa", sum := "78aa86c25c37cc4f31c1f6c1013b99c8b93b35160a0a33be3db2341c2f22d96f", func := "loop.example/g00024/laws.FnTurns", spec := "fnTurns", apart := false, narrowed := true }
def FnTurnsUptoSaid : Prop := fnTurnsUptoRow.holds Try.pinned (OpenSpec.upto fnTurnsSpec)

/-- 'laws.FnNearest', WHERE WHAT IT READS IS OF BULK AT MOST 1048576: true; the input reads as it did. -/
def fnNearestUptoRow : OpenClaim := { program := "ytelaljcglhmmnaa", sum := "78aa86c25c37cc4f31c1f6c1013b99c8b93b35160a0a33be3db2341c2f22d96f", func := "loop.example/g00024/laws.FnNearest", spec := "fnNearest", apart := false, narrowed := true }
def FnNearestUptoSaid : Prop := fnNearestUptoRow.holds Try.pinned (OpenSpec.upto fnNearestSpec)

/-- 'laws.FnSimple', WHERE WHAT IT READS IS OF BULK AT MOST 1048576: true; the input reads as it did. -/
def fnSimpleUptoRow : OpenClaim := { program := "ytelaljcglhmmnaa", sum := "78aa86c25c37cc4f31c1f6c1013b99c8b93b35160a0a33be3db2341c2f22d96f", func := "loop.example/g00024/laws.FnSimple", spec := "fnSimple", recurses := true, apart := false, narrowed := true }
def FnSimpleUptoSaid : Prop := fnSimpleUptoRow.holds Try.pinned (OpenSpec.upto fnSimpleSpec)

end Rows
end Go.Proofs.Ytelaljcglhmmnaa
