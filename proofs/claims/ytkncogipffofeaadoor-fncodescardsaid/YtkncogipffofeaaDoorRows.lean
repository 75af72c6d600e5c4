/-
  NARROWER THAN 'FOR EVERY INPUT', by the rows' own cells (each row's printed sentence says how): FnCodes: laid · FnHeadings: laid.
  DERIVED. THE GIVEN ROWS OF THIS SEAT. 2 by the template 'for every input the law returns true; each argument reads behind the call as it read before'; 0 by the template 'total and deterministic' (their statements: YtkncogipffofeaaDoorTotals.lean).
  GIVEN WITH THE SEED: the statements are not yours to turn. If you find one false, say at which input.
  Laid BY PROGRAM, IN A SANDBOX (cutbox-rows.mjs): the forced cells as the released guide's own fill.sh prints them over the translation 78b97a8103b20c4c… (all of the seat's roots in one cut). By AI agents, Wed Nov 11 2026. No macro, syntax, notation, axiom, sorry.
-/
import Derived.Test.YtkncogipffofeaaDoorChecked
import GoSem.Claim
import GoSem.ClaimJoined
import GoSem.ClaimMapViews
import Derived.JoinedTies
import Derived.KernelRfl
namespace Go.Proofs.YtkncogipffofeaaDoor
/- THE CELL 'sum', in the pinned program and in every row, IS THE sha256 OF THE DUMP (.gsa) THAT YtkncogipffofeaaDoorProg.lean LOADS. Nothing in Lean hashes anything: it is a label: what it is worth is what the hold of that sum in a sandbox is worth. -/
noncomputable def Tryd.pinned : Pinned := { name := "ytkncogipffofeaadoor", sum := "78b97a8103b20c4ccf9c4dc6547976d764df12b7edc4f0d8a1cc8552429b64a7", checked := Tryd.checked }
namespace Rows
def none {H : Type} : Left H := { results := [], args := [] }

/- WHAT THE LISTED PACKAGE-LEVEL VARIABLES READ AS WHEN THE CALL BEGINS. Each datum BY PROGRAM (the guide's laid-datum.mjs) off the statement by which the dump's own 'gosem.cut.vars' lays the variable. In a bare row this is a premise. The card (YtkncogipffofeaaDoorCards.lean) ties it to the program's text. -/
def laid_loop_example_g00024_impl_spreadOf {H : Type} : DataW H := .agg [.lit (.int .u64 0), .lit (.int .u64 1), .lit (.int .u64 4), .lit (.int .u64 5), .lit (.int .u64 16), .lit (.int .u64 17), .lit (.int .u64 20), .lit (.int .u64 21), .lit (.int .u64 64), .lit (.int .u64 65), .lit (.int .u64 68), .lit (.int .u64 69), .lit (.int .u64 80), .lit (.int .u64 81), .lit (.int .u64 84), .lit (.int .u64 85)]
def laid_loop_example_g00024_impl_gatherOf {H : Type} : DataW H := .agg [.lit (.int .i64 0), .lit (.int .i64 1), .lit (.int .i64 0), .lit (.int .i64 1), .lit (.int .i64 2), .lit (.int .i64 3), .lit (.int .i64 2), .lit (.int .i64 3)]
def laid_loop_example_g00024_impl_windOf {H : Type} : DataW H := .agg [.agg [.lit (.int .i64 5), .lit (.int .i64 6), .lit (.int .i64 7)], .agg [.lit (.int .i64 4), .lit (.int .i64 (-1)), .lit (.int .i64 0)], .agg [.lit (.int .i64 3), .lit (.int .i64 2), .lit (.int .i64 1)]]

/-- 'laws.FnCodes': WHATEVER THE INPUT: true; the input reads as it did. -/
def fnCodesSpec : ChangeSpec := { name := "fnCodes", vars := ["loop.example/g00024/impl.spreadOf", "loop.example/g00024/impl.gatherOf"], fn := fun _ => fun
  | [d, g1, g2] => { results := [.lit (.bool true)], args := [d], vars := [g1, g2] }
  | _ => none }
def fnCodesRow : OpenClaim := { program := "ytkncogipffofeaadoor", sum := "78b97a8103b20c4ccf9c4dc6547976d764df12b7edc4f0d8a1cc8552429b64a7", func := "loop.example/g00024/laws.FnCodes", spec := "fnCodes", named := ["loop.example/g00024/impl.spreadOf", "loop.example/g00024/impl.gatherOf"], apart := false, laid := [("loop.example/g00024/impl.spreadOf", laid_loop_example_g00024_impl_spreadOf), ("loop.example/g00024/impl.gatherOf", laid_loop_example_g00024_impl_gatherOf)] }
def FnCodesSaid : Prop := fnCodesRow.holds Tryd.pinned (OpenSpec.ofChange fnCodesSpec)

/-- ITS FALSE NEIGHBOUR: 'it returns false'. Refute it at one input. -/
def fnCodesWrong : ChangeSpec := { name := "fnCodes", vars := ["loop.example/g00024/impl.spreadOf", "loop.example/g00024/impl.gatherOf"], fn := fun _ => fun
  | [d, g1, g2] => { results := [.lit (.bool false)], args := [d], vars := [g1, g2] }
  | _ => none }
def FnCodesWrongFalsely : Prop := fnCodesRow.holds Tryd.pinned (OpenSpec.ofChange fnCodesWrong)

/-- 'laws.FnHeadings': WHATEVER THE INPUT: true; the input reads as it did. -/
def fnHeadingsSpec : ChangeSpec := { name := "fnHeadings", vars := ["loop.example/g00024/impl.windOf"], fn := fun _ => fun
  | [d, g1] => { results := [.lit (.bool true)], args := [d], vars := [g1] }
  | _ => none }
def fnHeadingsRow : OpenClaim := { program := "ytkncogipffofeaadoor", sum := "78b97a8103b20c4ccf9c4dc6547976d764df12b7edc4f0d8a1cc8552429b64a7", func := "loop.example/g00024/laws.FnHeadings", spec := "fnHeadings", named := ["loop.example/g00024/impl.windOf"], apart := false, laid := [("loop.example/g00024/impl.windOf", laid_loop_example_g00024_impl_windOf)] }
def FnHeadingsSaid : Prop := fnHeadingsRow.holds Tryd.pinned (OpenSpec.ofChange fnHeadingsSpec)

/-- ITS FALSE NEIGHBOUR: 'it returns false'. Refute it at one input. -/
def fnHeadingsWrong : ChangeSpec := { name := "fnHeadings", vars := ["loop.example/g00024/impl.windOf"], fn := fun _ => fun
  | [d, g1] => { results := [.lit (.bool false)], args := [d], vars := [g1] }
  | _ => none }
def FnHeadingsWrongFalsely : Prop := fnHeadingsRow.holds Tryd.pinned (OpenSpec.ofChange fnHeadingsWrong)

/- THE SECOND FORM. 'bulk': how many values and letters a reading holds, each counted each time it is reached (what is shared counts as often as it is met; a slice's spare places count too). A statement '..UptoSaid' is the law's where the arguments, and the package variables that the reading takes, are together of bulk at most 1048576: NARROWER than '..Said'. Prove '..Said' where nothing that the law and all that it calls make is longer than what came in: it says more and counts as full. Else prove '..UptoSaid'. A law counts once. -/
mutual
def uptoBulk {H : Type} : DataW H → Nat
  | .lit (.string bytes) => bytes.length + 1
  | .lit _ => 1
  | .nil => 1
  | .ptr d => uptoBulk d + 1
  | .slice elems spare => uptoBulkAll elems + uptoBulkAll spare + 1
  | .agg parts => uptoBulkAll parts + 1
  | .iface _ d => uptoBulk d + 1
  | .map entries => uptoBulkEntries entries + 1
  | .held _ => 1
def uptoBulkAll {H : Type} : List (DataW H) → Nat
  | [] => 0
  | d :: r => uptoBulk d + uptoBulkAll r
def uptoBulkEntries {H : Type} : List (Lit × DataW H) → Nat
  | [] => 0
  | x :: r => uptoBulkEntry x + uptoBulkEntries r
def uptoBulkEntry {H : Type} : Lit × DataW H → Nat
  | (.string bytes, d) => bytes.length + uptoBulk d + 1
  | (_, d) => uptoBulk d + 1
 end
def uptoSmall : (H : Type) → List (DataW H) → Bool := fun _ ds => decide (uptoBulkAll ds ≤ 1048576)
def OpenSpec.upto (s : _root_.Go.ChangeSpec) : _root_.Go.OpenSpec := { _root_.Go.OpenSpec.ofChange s with cond := some uptoSmall }

/-- 'laws.FnCodes', WHERE WHAT IT READS IS OF BULK AT MOST 1048576: true; the input reads as it did. -/
def fnCodesUptoRow : OpenClaim := { program := "ytkncogipffofeaadoor", sum := "78b97a8103b20c4ccf9c4dc6547976d764df12b7edc4f0d8a1cc8552429b64a7", func := "loop.example/g00024/laws.FnCodes", spec := "fnCodes", named := ["loop.example/g00024/impl.spreadOf", "loop.example/g00024/impl.gatherOf"], apart := false, laid := [("loop.example/g00024/impl.spreadOf", laid_loop_example_g00024_impl_spreadOf), ("loop.example/g00024/impl.gatherOf", laid_loop_example_g00024_impl_gatherOf)], narrowed := true }
def FnCodesUptoSaid : Prop := fnCodesUptoRow.holds Tryd.pinned (OpenSpec.upto fnCodesSpec)

/-- 'laws.FnHeadings', WHERE WHAT IT READS IS OF BULK AT MOST 1048576: true; the input reads as it did. -/
def fnHeadingsUptoRow : OpenClaim := { program := "ytkncogipffofeaadoor", sum := "78b97a8103b20c4ccf9c4dc6547976d764df12b7edc4f0d8a1cc8552429b64a7", func := "loop.example/g00024/laws.FnHeadings", spec := "fnHeadings", named := ["loop.example/g00024/impl.windOf"], apart := false, laid := [("loop.example/g00024/impl.windOf", laid_loop_example_g00024_impl_windOf)], narrowed := true }
def FnHeadingsUptoSaid : Prop := fnHeadingsUptoRow.holds Tryd.pinned (OpenSpec.upto fnHeadingsSpec)

end Rows
end Go.Proofs.YtkncogipffofeaaDoor
