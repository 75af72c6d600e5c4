/-
  NARROWER THAN 'FOR EVERY INPUT', by the rows' own cells (each row's printed sentence says how): FnExactReach: laid · FnExactFirstRoads: laid.
  DERIVED. THE GIVEN ROWS OF THIS SEAT. 2 by the template 'for every input the law returns true; each argument reads behind the call as it read before'; 0 by the template 'total and deterministic' (their statements: YtdjofkgmpbiofaaDoorTotals.lean).
  GIVEN WITH THE SEED: the statements are not yours to turn. If you find one false, say at which input.
  Laid BY PROGRAM, IN A SANDBOX (cutbox-rows.mjs): the forced cells as the released guide's own fill.sh prints them over the translation 6ddc44952d6b68d9… (all of the seat's roots in one cut). By AI agents, Wed Nov 11 2026. No macro, syntax, notation, axiom, sorry.
-/
import Derived.Test.YtdjofkgmpbiofaaDoorChecked
import GoSem.Claim
import GoSem.ClaimJoined
import GoSem.ClaimMapViews
import Derived.JoinedTies
import Derived.KernelRfl
namespace Go.Proofs.YtdjofkgmpbiofaaDoor
/- THE CELL 'sum', in the pinned program and in every row, IS THE sha256 OF THE DUMP (.gsa) THAT YtdjofkgmpbiofaaDoorProg.lean LOADS. Nothing in Lean hashes anything: it is a label: what it is worth is what the hold of that sum in a sandbox is worth. -/
noncomputable def Tryd.pinned : Pinned := { name := "ytdjofkgmpbiofaadoor", sum := "6ddc44952d6b68d9df4ea043afdb3e8d2fef2bd0d60df76c407c56d014fd323b", checked := Tryd.checked }
namespace Rows
def none {H : Type} : Left H := { results := [], args := [] }

/- WHAT THE LISTED PACKAGE-LEVEL VARIABLES READ AS WHEN THE CALL BEGINS. Each datum BY PROGRAM (the guide's laid-datum.mjs) off the statement by which the dump's own 'gosem.cut.vars' lays the variable. In a bare row this is a premise. The card (YtdjofkgmpbiofaaDoorCards.lean) ties it to the program's text. -/
def laid_loop_example_g00024_impl_windOf {H : Type} : DataW H := .agg [.agg [.lit (.int .i64 5), .lit (.int .i64 6), .lit (.int .i64 7)], .agg [.lit (.int .i64 4), .lit (.int .i64 (-1)), .lit (.int .i64 0)], .agg [.lit (.int .i64 3), .lit (.int .i64 2), .lit (.int .i64 1)]]

/-- 'laws.FnExactReach': WHATEVER THE INPUT: true; the input reads as it did. -/
def fnExactReachSpec : ChangeSpec := { name := "fnExactReach", vars := ["loop.example/g00024/impl.windOf"], fn := fun _ => fun
  | [d1, d2, g1] => { results := [.lit (.bool true)], args := [d1, d2], vars := [g1] }
  | _ => none }
def fnExactReachRow : OpenClaim := { program := "ytdjofkgmpbiofaadoor", sum := "6ddc44952d6b68d9df4ea043afdb3e8d2fef2bd0d60df76c407c56d014fd323b", func := "loop.example/g00024/laws.FnExactReach", spec := "fnExactReach", unfollowed := true, recurses := true, named := ["loop.example/g00024/impl.windOf"], plainKeys := false, apart := false, laid := [("loop.example/g00024/impl.windOf", laid_loop_example_g00024_impl_windOf)] }
def FnExactReachSaid : Prop := fnExactReachRow.holds Tryd.pinned (OpenSpec.ofChange fnExactReachSpec)

/-- ITS FALSE NEIGHBOUR: 'it returns false'. Refute it at one input. -/
def fnExactReachWrong : ChangeSpec := { name := "fnExactReach", vars := ["loop.example/g00024/impl.windOf"], fn := fun _ => fun
  | [d1, d2, g1] => { results := [.lit (.bool false)], args := [d1, d2], vars := [g1] }
  | _ => none }
def FnExactReachWrongFalsely : Prop := fnExactReachRow.holds Tryd.pinned (OpenSpec.ofChange fnExactReachWrong)

/-- 'laws.FnExactFirstRoads': WHATEVER THE INPUT: true; the input reads as it did. -/
def fnExactFirstRoadsSpec : ChangeSpec := { name := "fnExactFirstRoads", vars := ["loop.example/g00024/impl.windOf"], fn := fun _ => fun
  | [d1, d2, g1] => { results := [.lit (.bool true)], args := [d1, d2], vars := [g1] }
  | _ => none }
def fnExactFirstRoadsRow : OpenClaim := { program := "ytdjofkgmpbiofaadoor", sum := "6ddc44952d6b68d9df4ea043afdb3e8d2fef2bd0d60df76c407c56d014fd323b", func := "loop.example/g00024/laws.FnExactFirstRoads", spec := "fnExactFirstRoads", unfollowed := true, recurses := true, named := ["loop.example/g00024/impl.windOf"], plainKeys := false, apart := false, laid := [("loop.example/g00024/impl.windOf", laid_loop_example_g00024_impl_windOf)] }
def FnExactFirstRoadsSaid : Prop := fnExactFirstRoadsRow.holds Tryd.pinned (OpenSpec.ofChange fnExactFirstRoadsSpec)

/-- ITS FALSE NEIGHBOUR: 'it returns false'. Refute it at one input. -/
def fnExactFirstRoadsWrong : ChangeSpec := { name := "fnExactFirstRoads", vars := ["loop.example/g00024/impl.windOf"], fn := fun _ => fun
  | [d1, d2, g1] => { results := [.lit (.bool false)], args := [d1, d2], vars := [g1] }
  | _ => none }
def FnExactFirstRoadsWrongFalsely : Prop := fnExactFirstRoadsRow.holds Tryd.pinned (OpenSpec.ofChange fnExactFirstRoadsWrong)

/- THE SECOND FORM. 'bulk': how many values and letters a reading holds, each counted each time it is reached (what is shared counts as often as it is met; a slice's spare places count too). A statement '..UptoSaid' is the law's where the arguments, and the package variables that the reading takes, are together of bulk at most 1048576: NARROWER than '..Said'. Prove '..Said' where nothing that the law and all that it calls make is longer than what came in: it says more and counts as full. Else prove '..UptoSaid'. A law counts once. -/
mutual
def uptoBulk {H : Type} : DataW H → Nat
  | .lit (.string bytes) => bytes.length + 1
  | .lit _ => 1
  | .nil => 1
  | .ptr d => uptoBulk d + 1
  | .slice elems spare => uptoBulkAll elems + uptoBulkAll spare + 1
  | .agg parts => uptoBulkAll parts + 1
  | .iface _ d => uptoBulk d + 1
  | .map entries => uptoBulkEntries entries + 1
  | .held _ => 1
def uptoBulkAll {H : Type} : List (DataW H) → Nat
  | [] => 0
  | d :: r => uptoBulk d + uptoBulkAll r
def uptoBulkEntries {H : Type} : List (Lit × DataW H) → Nat
  | [] => 0
  | x :: r => uptoBulkEntry x + uptoBulkEntries r
def uptoBulkEntry {H : Type} : Lit × DataW H → Nat
  | (.string bytes, d) => bytes.length + uptoBulk d + 1
  | (_, d) => uptoBulk d + 1
 end
def uptoSmall : (H : Type) → List (DataW H) → Bool := fun _ ds => decide (uptoBulkAll ds ≤ 1048576)
def OpenSpec.upto (s : _root_.Go.ChangeSpec) : _root_.Go.OpenSpec := { _root_.Go.OpenSpec.ofChange s with cond := some uptoSmall }

/-- 'laws.FnExactReach', WHERE WHAT IT READS IS OF BULK AT MOST 1048576: true; the input reads as it did. -/
def fnExactReachUptoRow : OpenClaim := { program := "ytdjofkgmpbiofaadoor", sum := "6ddc44952d6b68d9df4ea043afdb3e8d2fef2bd0d60df76c407c56d014fd323b", func := "loop.example/g00024/laws.FnExactReach", spec := "fnExactReach", unfollowed := true, recurses := true, named := ["loop.example/g00024/impl.windOf"], plainKeys := false, apart := false, laid := [("loop.example/g00024/impl.windOf", laid_loop_example_g00024_impl_windOf)], narrowed := true }
def FnExactReachUptoSaid : Prop := fnExactReachUptoRow.holds Tryd.pinned (OpenSpec.upto fnExactReachSpec)

/-- 'laws.FnExactFirstRoads', WHERE WHAT IT READS IS OF BULK AT MOST 1048576: true; the input reads as it did. -/
def fnExactFirstRoadsUptoRow : OpenClaim := { program := "ytdjofkgmpbiofaadoor", sum := "6ddc44952d6b68d9df4ea043afdb3e8d2fef2bd0d60df76c407c56d014fd323b", func := "loop.example/g00024/laws.FnExactFirstRoads", spec := "fnExactFirstRoads", unfollowed := true, recurses := true, named := ["loop.example/g00024/impl.windOf"], plainKeys := false, apart := false, laid := [("loop.example/g00024/impl.windOf", laid_loop_example_g00024_impl_windOf)], narrowed := true }
def FnExactFirstRoadsUptoSaid : Prop := fnExactFirstRoadsUptoRow.holds Tryd.pinned (OpenSpec.upto fnExactFirstRoadsSpec)

end Rows
end Go.Proofs.YtdjofkgmpbiofaaDoor
