/-
  No cell of these rows narrows 'for every input' (looked for: loops, veiled, ifaces, maps, wideKeys, modest, calm, conditions, laid).
  DERIVED. THE GIVEN ROWS OF THIS SEAT. 5 by the template 'for every input the law returns true; each argument reads behind the call as it read before'; 0 by the template 'total and deterministic' (their statements: YtkknbapcbcialaaTotals.lean).
  GIVEN WITH THE SEED: the statements are not yours to turn. If you find one false, say at which input.
  Laid BY PROGRAM, IN A SANDBOX (cutbox-rows.mjs): the forced cells as the released guide's own fill.sh prints them over the translation 44f9f2e85e48aacb… (all of the seat's roots in one cut). By AI agents, Wed Nov 11 2026. No macro, syntax, notation, axiom, sorry.
-/
import Derived.Test.YtkknbapcbcialaaChecked
import GoSem.Claim
import GoSem.ClaimJoined
import GoSem.ClaimMapViews
import Derived.JoinedTies
import Derived.KernelRfl
namespace Go.Proofs.Ytkknbapcbcialaa
/- THE CELL 'sum', in the pinned program and in every row, IS THE sha256 OF THE DUMP (.gsa) THAT YtkknbapcbcialaaProg.lean LOADS. Nothing in Lean hashes anything: it is a label: what it is worth is what the hold of that sum in a sandbox is worth. -/
noncomputable def Try.pinned : Pinned := { name := "ytkknbapcbcialaa", sum := "44f9f2e85e48aacb438db4418650f9e2159a475b5235abe81a7d48dadd8f076e", checked := Try.checked }
namespace Rows
def none {H : Type} : Left H := { results := [], args := [] }

/-- 'laws.FnSimple': WHATEVER THE INPUT: true; the input reads as it did. -/
def fnSimpleSpec : ChangeSpec := { name := "fnSimple", fn := fun _ => fun
  | [d] => { results := [.lit (.bool true)], args := [d] }
  | _ => none }
def fnSimpleRow : OpenClaim := { program := "ytkknbapcbcialaa", sum := "44f9f2e85e48aacb438db4418650f9e2159a475b5235abe81a7d48dadd8f076e", func := "loop.example/g00024/laws.FnSimple", spec := "fnSimple", recurses := true, apart := false }
def FnSimpleSaid : Prop := fnSimpleRow.holds Try.pinned (OpenSpec.ofChange fnSimpleSpec)

/-- ITS FALSE NEIGHBOUR: 'it returns false'. Refute it at one input. -/
def fnSimpleWrong : ChangeSpec := { name := "fnSimple", fn := fun _ => fun
  | [d] => { results := [.lit (.bool false)], args := [d] }
  | _ => none }
def FnSimpleWrongFalsely : Prop := fnSimpleRow.holds Try.pinned (OpenSpec.ofChange fnSimpleWrong)

/-- 'laws.FnTilesOf': WHATEVER THE INPUT: true; the input reads as it did. -/
def fnTilesOfSpec : ChangeSpec := { name := "fnTilesOf", fn := fun _ => fun
  | [d] => { results := [.lit (.bool true)], args := [d] }
  | _ => none }
def fnTilesOfRow : OpenClaim := { program := "ytkknbapcbcialaa", sum := "44f9f2e85e48aacb438db4418650f9e2159a475b5235abe81a7d48dadd8f076e", func := "loop.example/g00024/laws.FnTilesOf", spec := "fnTilesOf", apart := false }
def FnTilesOfSaid : Prop := fnTilesOfRow.holds Try.pinned (OpenSpec.ofChange fnTilesOfSpec)

/-- ITS FALSE NEIGHBOUR: 'it returns false'. Refute it at one input. -/
def fnTilesOfWrong : ChangeSpec := { name := "fnTilesOf", fn := fun _ => fun
  | [d] => { results := [.lit (.bool false)], args := [d] }
  | _ => none }
def FnTilesOfWrongFalsely : Prop := fnTilesOfRow.holds Try.pinned (OpenSpec.ofChange fnTilesOfWrong)

/-- 'laws.FnNearest': WHATEVER THE INPUT: true; the input reads as it did. -/
def fnNearestSpec : ChangeSpec := { name := "fnNearest", fn := fun _ => fun
  | [d] => { results := [.lit (.bool true)], args := [d] }
  | _ => none }
def fnNearestRow : OpenClaim := { program := "ytkknbapcbcialaa", sum := "44f9f2e85e48aacb438db4418650f9e2159a475b5235abe81a7d48dadd8f076e", func := "loop.example/g00024/laws.FnNearest", spec := "fnNearest", apart := false }
def FnNearestSaid : Prop := fnNearestRow.holds Try.pinned (OpenSpec.ofChange fnNearestSpec)

/-- ITS FALSE NEIGHBOUR: 'it returns false'. Refute it at one input. -/
def fnNearestWrong : ChangeSpec := { name := "fnNearest", fn := fun _ => fun
  | [d] => { results := [.lit (.bool false)], args := [d] }
  | _ => none }
def FnNearestWrongFalsely : Prop := fnNearestRow.holds Try.pinned (OpenSpec.ofChange fnNearestWrong)

/-- 'laws.FnClipAgain': WHATEVER THE INPUT: true; the input reads as it did. -/
def fnClipAgainSpec : ChangeSpec := { name := "fnClipAgain", fn := fun _ => fun
  | [d] => { results := [.lit (.bool true)], args := [d] }
  | _ => none }
def fnClipAgainRow : OpenClaim := { program := "ytkknbapcbcialaa", sum := "44f9f2e85e48aacb438db4418650f9e2159a475b5235abe81a7d48dadd8f076e", func := "loop.example/g00024/laws.FnClipAgain", spec := "fnClipAgain", unfollowed := true, recurses := true, apart := false }
def FnClipAgainSaid : Prop := fnClipAgainRow.holds Try.pinned (OpenSpec.ofChange fnClipAgainSpec)

/-- ITS FALSE NEIGHBOUR: 'it returns false'. Refute it at one input. -/
def fnClipAgainWrong : ChangeSpec := { name := "fnClipAgain", fn := fun _ => fun
  | [d] => { results := [.lit (.bool false)], args := [d] }
  | _ => none }
def FnClipAgainWrongFalsely : Prop := fnClipAgainRow.holds Try.pinned (OpenSpec.ofChange fnClipAgainWrong)

/-- 'laws.FnTilesJoin': WHATEVER THE INPUT: true; the input reads as it did. -/
def fnTilesJoinSpec : ChangeSpec := { name := "fnTilesJoin", fn := fun _ => fun
  | [d] => { results := [.lit (.bool true)], args := [d] }
  | _ => none }
def fnTilesJoinRow : OpenClaim := { program := "ytkknbapcbcialaa", sum := "44f9f2e85e48aacb438db4418650f9e2159a475b5235abe81a7d48dadd8f076e", func := "loop.example/g00024/laws.FnTilesJoin", spec := "fnTilesJoin", unfollowed := true, recurses := true, apart := false }
def FnTilesJoinSaid : Prop := fnTilesJoinRow.holds Try.pinned (OpenSpec.ofChange fnTilesJoinSpec)

/-- ITS FALSE NEIGHBOUR: 'it returns false'. Refute it at one input. -/
def fnTilesJoinWrong : ChangeSpec := { name := "fnTilesJoin", fn := fun _ => fun
  | [d] => { results := [.lit (.bool false)], args := [d] }
  | _ => none }
def FnTilesJoinWrongFalsely : Prop := fnTilesJoinRow.holds Try.pinned (OpenSpec.ofChange fnTilesJoinWrong)

/- THE SECOND FORM. 'bulk': how many values and letters a reading holds, each counted each time it is reached (what is shared counts as often as it is met; a slice's spare places count too). A statement '..UptoSaid' is the law's where the arguments, and the package variables that the reading takes, are together of bulk at most 1048576: NARROWER than '..Said'. Prove '..Said' where nothing that the law and all that it calls make is longer than what came in: it says more and counts as full. Else prove '..UptoSaid'. A law counts once. -/
mutual
def uptoBulk {H : Type} : DataW H → Nat
  | .lit (.string bytes) => bytes.length + 1
  | .lit _ => 1
  | .nil => 1
  | .ptr d => uptoBulk d + 1
  | .slice elems spare => uptoBulkAll elems + uptoBulkAll spare + 1
  | .agg parts => uptoBulkAll parts + 1
  | .iface _ d => uptoBulk d + 1
  | .map entries => uptoBulkEntries entries + 1
  | .held _ => 1
def uptoBulkAll {H : Type} : List (DataW H) → Nat
  | [] => 0
  | d :: r => uptoBulk d + uptoBulkAll r
def uptoBulkEntries {H : Type} : List (Lit × DataW H) → Nat
  | [] => 0
  | x :: r => uptoBulkEntry x + uptoBulkEntries r
def uptoBulkEntry {H : Type} : Lit × DataW H → Nat
  | (.string bytes, d) => bytes.length + uptoBulk d + 1
  | (_, d) => uptoBulk d + 1
 end
def uptoSmall : (H : Type) → List (DataW H) → Bool := fun _ ds => decide (uptoBulkAll ds ≤ 1048576)
def OpenSpec.upto (s : _root_.Go.ChangeSpec) : _root_.Go.OpenSpec := { _root_.Go.OpenSpec.ofChange s with cond := some uptoSmall }

/-- 'laws.FnSimple', WHERE WHAT IT READS IS OF BULK AT MOST 1048576: true; the input reads as it did. -/
def fnSimpleUptoRow : OpenClaim := { program := "ytkknbapcbcialaa", sum := "44f9f2e85e48aacb438db4418650f9e2159a475b5235abe81a7d48dadd8f076e", func := "loop.example/g00024/laws.FnSimple", spec := "fnSimple", recurses := true, apart := false, narrowed := true }
def FnSimpleUptoSaid : Prop := fnSimpleUptoRow.holds Try.pinned (OpenSpec.upto fnSimpleSpec)

/-- 'laws.FnTilesOf', WHERE WHAT IT READS IS OF BULK AT MOST 1048576: true; the input reads as it did. -/
def fnTilesOfUptoRow : OpenClaim := { program := "ytkknbapcbcialaa", sum := "44f9f2e85e48aacb438db4418650f9e2159a475b5235abe81a7d48dadd8f076e", func := "loop.example/g00024/laws.FnTilesOf", spec := "fnTilesOf", apart := false, narrowed := true }
def FnTilesOfUptoSaid : Prop := fnTilesOfUptoRow.holds Try.pinned (OpenSpec.upto fnTilesOfSpec)

/-- 'laws.FnNearest', WHERE WHAT IT READS IS OF BULK AT MOST 1048576: true; the input reads as it did. -/
def fnNearestUptoRow : OpenClaim := { program := "ytkknbapcbcialaa", sum := "44f9f2e85e48aacb438db4418650f9e2159a475b5235abe81a7d48dadd8f076e", func := "loop.example/g00024/laws.FnNearest", spec := "fnNearest", apart := false, narrowed := true }
def FnNearestUptoSaid : Prop := fnNearestUptoRow.holds Try.pinned (OpenSpec.upto fnNearestSpec)

/-- 'laws.FnClipAgain', WHERE WHAT IT READS IS OF BULK AT MOST 1048576: true; the input reads as it did. -/
def fnClipAgainUptoRow : OpenClaim := { program := "ytkknbapcbcialaa", sum := "44f9f2e85e48aacb438db4418650f9e2159a475b5235abe81a7d48dadd8f076e", func := "loop.example/g00024/laws.FnClipAgain", spec := "fnClipAgain", unfollowed := true, recurses := true, apart := false, narrowed := true }
def FnClipAgainUptoSaid : Prop := fnClipAgainUptoRow.holds Try.pinned (OpenSpec.upto fnClipAgainSpec)

/-- 'laws.FnTilesJoin', WHERE WHAT IT READS IS OF BULK AT MOST 1048576: true; the input reads as it did. -/
def fnTilesJoinUptoRow : OpenClaim := { program := "ytkknbapcbcialaa", sum := "44f9f2e85e48aacb438db4418650f9e2159a475b5235abe81a7d48dadd8f076e", func := "loop.example/g00024/laws.FnTilesJoin", spec := "fnTilesJoin", unfollowed := true, recurses := true, apart := false, narrowed := true }
def FnTilesJoinUptoSaid : Prop := fnTilesJoinUptoRow.holds Try.pinned (OpenSpec.upto fnTilesJoinSpec)

end Rows
end Go.Proofs.Ytkknbapcbcialaa
