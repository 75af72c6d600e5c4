/-
  NARROWER THAN 'FOR EVERY INPUT', by the rows' own cells (each row's printed sentence says how): FnInBox: laid.
  DERIVED. THE GIVEN ROWS OF THIS SEAT. 1 by the template 'for every input the law returns true; each argument reads behind the call as it read before'; 0 by the template 'total and deterministic' (their statements: YtkinpfnelmdmlaaDoorTotals.lean).
  GIVEN WITH THE SEED: the statements are not yours to turn. If you find one false, say at which input.
  Laid BY PROGRAM, IN A SANDBOX (cutbox-rows.mjs): the forced cells as the released guide's own fill.sh prints them over the translation 9d290056e0780413… (all of the seat's roots in one cut). By AI agents, Wed Nov 11 2026. No macro, syntax, notation, axiom, sorry.
-/
import Derived.Test.YtkinpfnelmdmlaaDoorChecked
import GoSem.Claim
import GoSem.ClaimJoined
import GoSem.ClaimMapViews
import Derived.JoinedTies
import Derived.KernelRfl
namespace Go.Proofs.YtkinpfnelmdmlaaDoor
/- THE CELL 'sum', in the pinned program and in every row, IS THE sha256 OF THE DUMP (.gsa) THAT YtkinpfnelmdmlaaDoorProg.lean LOADS. Nothing in Lean hashes anything: it is a label: what it is worth is what the hold of that sum in a sandbox is worth. -/
noncomputable def Tryd.pinned : Pinned := { name := "ytkinpfnelmdmlaadoor", sum := "9d290056e0780413ca9e69d6c4e2d33a7176ee0eb6f4af205299d11b3360fd49", checked := Tryd.checked }
namespace Rows
def none {H : Type} : Left H := { results := [], args := [] }

/- WHAT THE LISTED PACKAGE-LEVEL VARIABLES READ AS WHEN THE CALL BEGINS. Each datum BY PROGRAM (the guide's laid-datum.mjs) off the statement by which the dump's own 'gosem.cut.vars' lays the variable. In a bare row this is a premise. The card (YtkinpfnelmdmlaaDoorCards.lean) ties it to the program's text. -/
def laid_loop_example_g00024_impl_spreadOf {H : Type} : DataW H := .agg [.lit (.int .u64 0), .lit (.int .u64 1), .lit (.int .u64 4), .lit (.int .u64 5), .lit (.int .u64 16), .lit (.int .u64 17), .lit (.int .u64 20), .lit (.int .u64 21), .lit (.int .u64 64), .lit (.int .u64 65), .lit (.int .u64 68), .lit (.int .u64 69), .lit (.int .u64 80), .lit (.int .u64 81), .lit (.int .u64 84), .lit (.int .u64 85)]

/-- 'laws.FnInBox': WHATEVER THE INPUT: true; the input reads as it did. -/
def fnInBoxSpec : ChangeSpec := { name := "fnInBox", vars := ["loop.example/g00024/impl.spreadOf"], fn := fun _ => fun
  | [d, g1] => { results := [.lit (.bool true)], args := [d], vars := [g1] }
  | _ => none }
def fnInBoxRow : OpenClaim := { program := "ytkinpfnelmdmlaadoor", sum := "9d290056e0780413ca9e69d6c4e2d33a7176ee0eb6f4af205299d11b3360fd49", func := "loop.example/g00024/laws.FnInBox", spec := "fnInBox", unfollowed := true, recurses := true, named := ["loop.example/g00024/impl.spreadOf"], apart := false, laid := [("loop.example/g00024/impl.spreadOf", laid_loop_example_g00024_impl_spreadOf)] }
def FnInBoxSaid : Prop := fnInBoxRow.holds Tryd.pinned (OpenSpec.ofChange fnInBoxSpec)

/-- ITS FALSE NEIGHBOUR: 'it returns false'. Refute it at one input. -/
def fnInBoxWrong : ChangeSpec := { name := "fnInBox", vars := ["loop.example/g00024/impl.spreadOf"], fn := fun _ => fun
  | [d, g1] => { results := [.lit (.bool false)], args := [d], vars := [g1] }
  | _ => none }
def FnInBoxWrongFalsely : Prop := fnInBoxRow.holds Tryd.pinned (OpenSpec.ofChange fnInBoxWrong)

/- THE SECOND FORM. 'bulk': how many values and letters a reading holds, each counted each time it is reached (what is shared counts as often as it is met; a slice's spare places count too). A statement '..UptoSaid' is the law's where the arguments, and the package variables that the reading takes, are together of bulk at most 1048576: NARROWER than '..Said'. Prove '..Said' where nothing that the law and all that it calls make is longer than what came in: it says more and counts as full. Else prove '..UptoSaid'. A law counts once. -/
mutual
def uptoBulk {H : Type} : DataW H → Nat
  | .lit (.string bytes) => bytes.length + 1
  | .lit _ => 1
  | .nil => 1
  | .ptr d => uptoBulk d + 1
  | .slice elems spare => uptoBulkAll elems + uptoBulkAll spare + 1
  | .agg parts => uptoBulkAll parts + 1
  | .iface _ d => uptoBulk d + 1
  | .map entries => uptoBulkEntries entries + 1
  | .held _ => 1
def uptoBulkAll {H : Type} : List (DataW H) → Nat
  | [] => 0
  | d :: r => uptoBulk d + uptoBulkAll r
def uptoBulkEntries {H : Type} : List (Lit × DataW H) → Nat
  | [] => 0
  | x :: r => uptoBulkEntry x + uptoBulkEntries r
def uptoBulkEntry {H : Type} : Lit × DataW H → Nat
  | (.string bytes, d) => bytes.length + uptoBulk d + 1
  | (_, d) => uptoBulk d + 1
 end
def uptoSmall : (H : Type) → List (DataW H) → Bool := fun _ ds => decide (uptoBulkAll ds ≤ 1048576)
def OpenSpec.upto (s : _root_.Go.ChangeSpec) : _root_.Go.OpenSpec := { _root_.Go.OpenSpec.ofChange s with cond := some uptoSmall }

/-- 'laws.FnInBox', WHERE WHAT IT READS IS OF BULK AT MOST 1048576: true; the input reads as it did. -/
def fnInBoxUptoRow : OpenClaim := { program := "ytkinpfnelmdmlaadoor", sum := "9d290056e0780413ca9e69d6c4e2d33a7176ee0eb6f4af205299d11b3360fd49", func := "loop.example/g00024/laws.FnInBox", spec := "fnInBox", unfollowed := true, recurses := true, named := ["loop.example/g00024/impl.spreadOf"], apart := false, laid := [("loop.example/g00024/impl.spreadOf", laid_loop_example_g00024_impl_spreadOf)], narrowed := true }
def FnInBoxUptoSaid : Prop := fnInBoxUptoRow.holds Tryd.pinned (OpenSpec.upto fnInBoxSpec)

end Rows
end Go.Proofs.YtkinpfnelmdmlaaDoor
