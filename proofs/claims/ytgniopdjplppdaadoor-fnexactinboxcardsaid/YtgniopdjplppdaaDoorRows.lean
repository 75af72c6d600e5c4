/-
  NARROWER THAN 'FOR EVERY INPUT', by the rows' own cells (each row's printed sentence says how): FnExactCodeOf: laid · FnExactPointOf: laid · FnExactCellBox: laid · FnExactCover: laid · FnExactSortSpace: laid · FnExactInBox: laid.
  DERIVED. THE GIVEN ROWS OF THIS SEAT. 6 by the template 'for every input the law returns true; each argument reads behind the call as it read before'; 0 by the template 'total and deterministic' (their statements: YtgniopdjplppdaaDoorTotals.lean).
  GIVEN WITH THE SEED: the statements are not yours to turn. If you find one false, say at which input.
  Laid BY PROGRAM, IN A SANDBOX (cutbox-rows.mjs): the forced cells as the released guide's own fill.sh prints them over the translation 5e3f765f64a4db6b… (all of the seat's roots in one cut). By AI agents, Wed Nov 11 2026. No macro, syntax, notation, axiom, sorry.
-/
import Derived.Test.YtgniopdjplppdaaDoorChecked
import GoSem.Claim
import GoSem.ClaimJoined
import GoSem.ClaimMapViews
import Derived.JoinedTies
import Derived.KernelRfl
namespace Go.Proofs.YtgniopdjplppdaaDoor
/- THE CELL 'sum', in the pinned program and in every row, IS THE sha256 OF THE DUMP (.gsa) THAT YtgniopdjplppdaaDoorProg.lean LOADS. Nothing in Lean hashes anything: it is a label: what it is worth is what the hold of that sum in a sandbox is worth. -/
noncomputable def Tryd.pinned : Pinned := { name := "ytgniopdjplppdaadoor", sum := "5e3f765f64a4db6bf657834f9fc86c4d964f0be0cb0a9696021249847b9c150d", checked := Tryd.checked }
namespace Rows
def none {H : Type} : Left H := { results := [], args := [] }

/- WHAT THE LISTED PACKAGE-LEVEL VARIABLES READ AS WHEN THE CALL BEGINS. Each datum BY PROGRAM (the guide's laid-datum.mjs) off the statement by which the dump's own 'gosem.cut.vars' lays the variable. In a bare row this is a premise. The card (YtgniopdjplppdaaDoorCards.lean) ties it to the program's text. -/
def laid_loop_example_g00024_impl_spreadOf {H : Type} : DataW H := .agg [.lit (.int .u64 0), .lit (.int .u64 1), .lit (.int .u64 4), .lit (.int .u64 5), .lit (.int .u64 16), .lit (.int .u64 17), .lit (.int .u64 20), .lit (.int .u64 21), .lit (.int .u64 64), .lit (.int .u64 65), .lit (.int .u64 68), .lit (.int .u64 69), .lit (.int .u64 80), .lit (.int .u64 81), .lit (.int .u64 84), .lit (.int .u64 85)]
def laid_loop_example_g00024_impl_gatherOf {H : Type} : DataW H := .agg [.lit (.int .i64 0), .lit (.int .i64 1), .lit (.int .i64 0), .lit (.int .i64 1), .lit (.int .i64 2), .lit (.int .i64 3), .lit (.int .i64 2), .lit (.int .i64 3)]

/-- 'laws.FnExactCodeOf': WHATEVER THE INPUT: true; the input reads as it did. -/
def fnExactCodeOfSpec : ChangeSpec := { name := "fnExactCodeOf", vars := ["loop.example/g00024/impl.spreadOf"], fn := fun _ => fun
  | [d, g1] => { results := [.lit (.bool true)], args := [d], vars := [g1] }
  | _ => none }
def fnExactCodeOfRow : OpenClaim := { program := "ytgniopdjplppdaadoor", sum := "5e3f765f64a4db6bf657834f9fc86c4d964f0be0cb0a9696021249847b9c150d", func := "loop.example/g00024/laws.FnExactCodeOf", spec := "fnExactCodeOf", named := ["loop.example/g00024/impl.spreadOf"], apart := false, laid := [("loop.example/g00024/impl.spreadOf", laid_loop_example_g00024_impl_spreadOf)] }
def FnExactCodeOfSaid : Prop := fnExactCodeOfRow.holds Tryd.pinned (OpenSpec.ofChange fnExactCodeOfSpec)

/-- ITS FALSE NEIGHBOUR: 'it returns false'. Refute it at one input. -/
def fnExactCodeOfWrong : ChangeSpec := { name := "fnExactCodeOf", vars := ["loop.example/g00024/impl.spreadOf"], fn := fun _ => fun
  | [d, g1] => { results := [.lit (.bool false)], args := [d], vars := [g1] }
  | _ => none }
def FnExactCodeOfWrongFalsely : Prop := fnExactCodeOfRow.holds Tryd.pinned (OpenSpec.ofChange fnExactCodeOfWrong)

/-- 'laws.FnExactPointOf': WHATEVER THE INPUT: true; the input reads as it did. -/
def fnExactPointOfSpec : ChangeSpec := { name := "fnExactPointOf", vars := ["loop.example/g00024/impl.gatherOf"], fn := fun _ => fun
  | [d, g1] => { results := [.lit (.bool true)], args := [d], vars := [g1] }
  | _ => none }
def fnExactPointOfRow : OpenClaim := { program := "ytgniopdjplppdaadoor", sum := "5e3f765f64a4db6bf657834f9fc86c4d964f0be0cb0a9696021249847b9c150d", func := "loop.example/g00024/laws.FnExactPointOf", spec := "fnExactPointOf", named := ["loop.example/g00024/impl.gatherOf"], apart := false, laid := [("loop.example/g00024/impl.gatherOf", laid_loop_example_g00024_impl_gatherOf)] }
def FnExactPointOfSaid : Prop := fnExactPointOfRow.holds Tryd.pinned (OpenSpec.ofChange fnExactPointOfSpec)

/-- ITS FALSE NEIGHBOUR: 'it returns false'. Refute it at one input. -/
def fnExactPointOfWrong : ChangeSpec := { name := "fnExactPointOf", vars := ["loop.example/g00024/impl.gatherOf"], fn := fun _ => fun
  | [d, g1] => { results := [.lit (.bool false)], args := [d], vars := [g1] }
  | _ => none }
def FnExactPointOfWrongFalsely : Prop := fnExactPointOfRow.holds Tryd.pinned (OpenSpec.ofChange fnExactPointOfWrong)

/-- 'laws.FnExactCellBox': WHATEVER THE INPUT: true; the input reads as it did. -/
def fnExactCellBoxSpec : ChangeSpec := { name := "fnExactCellBox", vars := ["loop.example/g00024/impl.gatherOf"], fn := fun _ => fun
  | [d, g1] => { results := [.lit (.bool true)], args := [d], vars := [g1] }
  | _ => none }
def fnExactCellBoxRow : OpenClaim := { program := "ytgniopdjplppdaadoor", sum := "5e3f765f64a4db6bf657834f9fc86c4d964f0be0cb0a9696021249847b9c150d", func := "loop.example/g00024/laws.FnExactCellBox", spec := "fnExactCellBox", named := ["loop.example/g00024/impl.gatherOf"], apart := false, laid := [("loop.example/g00024/impl.gatherOf", laid_loop_example_g00024_impl_gatherOf)] }
def FnExactCellBoxSaid : Prop := fnExactCellBoxRow.holds Tryd.pinned (OpenSpec.ofChange fnExactCellBoxSpec)

/-- ITS FALSE NEIGHBOUR: 'it returns false'. Refute it at one input. -/
def fnExactCellBoxWrong : ChangeSpec := { name := "fnExactCellBox", vars := ["loop.example/g00024/impl.gatherOf"], fn := fun _ => fun
  | [d, g1] => { results := [.lit (.bool false)], args := [d], vars := [g1] }
  | _ => none }
def FnExactCellBoxWrongFalsely : Prop := fnExactCellBoxRow.holds Tryd.pinned (OpenSpec.ofChange fnExactCellBoxWrong)

/-- 'laws.FnExactCover': WHATEVER THE INPUT: true; the input reads as it did. -/
def fnExactCoverSpec : ChangeSpec := { name := "fnExactCover", vars := ["loop.example/g00024/impl.gatherOf"], fn := fun _ => fun
  | [d1, d2, g1] => { results := [.lit (.bool true)], args := [d1, d2], vars := [g1] }
  | _ => none }
def fnExactCoverRow : OpenClaim := { program := "ytgniopdjplppdaadoor", sum := "5e3f765f64a4db6bf657834f9fc86c4d964f0be0cb0a9696021249847b9c150d", func := "loop.example/g00024/laws.FnExactCover", spec := "fnExactCover", unfollowed := true, recurses := true, named := ["loop.example/g00024/impl.gatherOf"], apart := false, laid := [("loop.example/g00024/impl.gatherOf", laid_loop_example_g00024_impl_gatherOf)] }
def FnExactCoverSaid : Prop := fnExactCoverRow.holds Tryd.pinned (OpenSpec.ofChange fnExactCoverSpec)

/-- ITS FALSE NEIGHBOUR: 'it returns false'. Refute it at one input. -/
def fnExactCoverWrong : ChangeSpec := { name := "fnExactCover", vars := ["loop.example/g00024/impl.gatherOf"], fn := fun _ => fun
  | [d1, d2, g1] => { results := [.lit (.bool false)], args := [d1, d2], vars := [g1] }
  | _ => none }
def FnExactCoverWrongFalsely : Prop := fnExactCoverRow.holds Tryd.pinned (OpenSpec.ofChange fnExactCoverWrong)

/-- 'laws.FnExactSortSpace': WHATEVER THE INPUT: true; the input reads as it did. -/
def fnExactSortSpaceSpec : ChangeSpec := { name := "fnExactSortSpace", vars := ["loop.example/g00024/impl.spreadOf"], fn := fun _ => fun
  | [d, g1] => { results := [.lit (.bool true)], args := [d], vars := [g1] }
  | _ => none }
def fnExactSortSpaceRow : OpenClaim := { program := "ytgniopdjplppdaadoor", sum := "5e3f765f64a4db6bf657834f9fc86c4d964f0be0cb0a9696021249847b9c150d", func := "loop.example/g00024/laws.FnExactSortSpace", spec := "fnExactSortSpace", unfollowed := true, recurses := true, named := ["loop.example/g00024/impl.spreadOf"], apart := false, laid := [("loop.example/g00024/impl.spreadOf", laid_loop_example_g00024_impl_spreadOf)] }
def FnExactSortSpaceSaid : Prop := fnExactSortSpaceRow.holds Tryd.pinned (OpenSpec.ofChange fnExactSortSpaceSpec)

/-- ITS FALSE NEIGHBOUR: 'it returns false'. Refute it at one input. -/
def fnExactSortSpaceWrong : ChangeSpec := { name := "fnExactSortSpace", vars := ["loop.example/g00024/impl.spreadOf"], fn := fun _ => fun
  | [d, g1] => { results := [.lit (.bool false)], args := [d], vars := [g1] }
  | _ => none }
def FnExactSortSpaceWrongFalsely : Prop := fnExactSortSpaceRow.holds Tryd.pinned (OpenSpec.ofChange fnExactSortSpaceWrong)

/-- 'laws.FnExactInBox': WHATEVER THE INPUT: true; the input reads as it did. -/
def fnExactInBoxSpec : ChangeSpec := { name := "fnExactInBox", vars := ["loop.example/g00024/impl.spreadOf"], fn := fun _ => fun
  | [d1, d2, g1] => { results := [.lit (.bool true)], args := [d1, d2], vars := [g1] }
  | _ => none }
def fnExactInBoxRow : OpenClaim := { program := "ytgniopdjplppdaadoor", sum := "5e3f765f64a4db6bf657834f9fc86c4d964f0be0cb0a9696021249847b9c150d", func := "loop.example/g00024/laws.FnExactInBox", spec := "fnExactInBox", unfollowed := true, recurses := true, named := ["loop.example/g00024/impl.spreadOf"], apart := false, laid := [("loop.example/g00024/impl.spreadOf", laid_loop_example_g00024_impl_spreadOf)] }
def FnExactInBoxSaid : Prop := fnExactInBoxRow.holds Tryd.pinned (OpenSpec.ofChange fnExactInBoxSpec)

/-- ITS FALSE NEIGHBOUR: 'it returns false'. Refute it at one input. -/
def fnExactInBoxWrong : ChangeSpec := { name := "fnExactInBox", vars := ["loop.example/g00024/impl.spreadOf"], fn := fun _ => fun
  | [d1, d2, g1] => { results := [.lit (.bool false)], args := [d1, d2], vars := [g1] }
  | _ => none }
def FnExactInBoxWrongFalsely : Prop := fnExactInBoxRow.holds Tryd.pinned (OpenSpec.ofChange fnExactInBoxWrong)

/- THE SECOND FORM. 'bulk': how many values and letters a reading holds, each counted each time it is reached (what is shared counts as often as it is met; a slice's spare places count too). A statement '..UptoSaid' is the law's where the arguments, and the package variables that the reading takes, are together of bulk at most 1048576: NARROWER than '..Said'. Prove '..Said' where nothing that the law and all that it calls make is longer than what came in: it says more and counts as full. Else prove '..UptoSaid'. A law counts once. -/
mutual
def uptoBulk {H : Type} : DataW H → Nat
  | .lit (.string bytes) => bytes.length + 1
  | .lit _ => 1
  | .nil => 1
  | .ptr d => uptoBulk d + 1
  | .slice elems spare => uptoBulkAll elems + uptoBulkAll spare + 1
  | .agg parts => uptoBulkAll parts + 1
  | .iface _ d => uptoBulk d + 1
  | .map entries => uptoBulkEntries entries + 1
  | .held _ => 1
def uptoBulkAll {H : Type} : List (DataW H) → Nat
  | [] => 0
  | d :: r => uptoBulk d + uptoBulkAll r
def uptoBulkEntries {H : Type} : List (Lit × DataW H) → Nat
  | [] => 0
  | x :: r => uptoBulkEntry x + uptoBulkEntries r
def uptoBulkEntry {H : Type} : Lit × DataW H → Nat
  | (.string bytes, d) => bytes.length + uptoBulk d + 1
  | (_, d) => uptoBulk d + 1
 end
def uptoSmall : (H : Type) → List (DataW H) → Bool := fun _ ds => decide (uptoBulkAll ds ≤ 1048576)
def OpenSpec.upto (s : _root_.Go.ChangeSpec) : _root_.Go.OpenSpec := { _root_.Go.OpenSpec.ofChange s with cond := some uptoSmall }

/-- 'laws.FnExactCodeOf', WHERE WHAT IT READS IS OF BULK AT MOST 1048576: true; the input reads as it did. -/
def fnExactCodeOfUptoRow : OpenClaim := { program := "ytgniopdjplppdaadoor", sum := "5e3f765f64a4db6bf657834f9fc86c4d964f0be0cb0a9696021249847b9c150d", func := "loop.example/g00024/laws.FnExactCodeOf", spec := "fnExactCodeOf", named := ["loop.example/g00024/impl.spreadOf"], apart := false, laid := [("loop.example/g00024/impl.spreadOf", laid_loop_example_g00024_impl_spreadOf)], narrowed := true }
def FnExactCodeOfUptoSaid : Prop := fnExactCodeOfUptoRow.holds Tryd.pinned (OpenSpec.upto fnExactCodeOfSpec)

/-- 'laws.FnExactPointOf', WHERE WHAT IT READS IS OF BULK AT MOST 1048576: true; the input reads as it did. -/
def fnExactPointOfUptoRow : OpenClaim := { program := "ytgniopdjplppdaadoor", sum := "5e3f765f64a4db6bf657834f9fc86c4d964f0be0cb0a9696021249847b9c150d", func := "loop.example/g00024/laws.FnExactPointOf", spec := "fnExactPointOf", named := ["loop.example/g00024/impl.gatherOf"], apart := false, laid := [("loop.example/g00024/impl.gatherOf", laid_loop_example_g00024_impl_gatherOf)], narrowed := true }
def FnExactPointOfUptoSaid : Prop := fnExactPointOfUptoRow.holds Tryd.pinned (OpenSpec.upto fnExactPointOfSpec)

/-- 'laws.FnExactCellBox', WHERE WHAT IT READS IS OF BULK AT MOST 1048576: true; the input reads as it did. -/
def fnExactCellBoxUptoRow : OpenClaim := { program := "ytgniopdjplppdaadoor", sum := "5e3f765f64a4db6bf657834f9fc86c4d964f0be0cb0a9696021249847b9c150d", func := "loop.example/g00024/laws.FnExactCellBox", spec := "fnExactCellBox", named := ["loop.example/g00024/impl.gatherOf"], apart := false, laid := [("loop.example/g00024/impl.gatherOf", laid_loop_example_g00024_impl_gatherOf)], narrowed := true }
def FnExactCellBoxUptoSaid : Prop := fnExactCellBoxUptoRow.holds Tryd.pinned (OpenSpec.upto fnExactCellBoxSpec)

/-- 'laws.FnExactCover', WHERE WHAT IT READS IS OF BULK AT MOST 1048576: true; the input reads as it did. -/
def fnExactCoverUptoRow : OpenClaim := { program := "ytgniopdjplppdaadoor", sum := "5e3f765f64a4db6bf657834f9fc86c4d964f0be0cb0a9696021249847b9c150d", func := "loop.example/g00024/laws.FnExactCover", spec := "fnExactCover", unfollowed := true, recurses := true, named := ["loop.example/g00024/impl.gatherOf"], apart := false, laid := [("loop.example/g00024/impl.gatherOf", laid_loop_example_g00024_impl_gatherOf)], narrowed := true }
def FnExactCoverUptoSaid : Prop := fnExactCoverUptoRow.holds Tryd.pinned (OpenSpec.upto fnExactCoverSpec)

/-- 'laws.FnExactSortSpace', WHERE WHAT IT READS IS OF BULK AT MOST 1048576: true; the input reads as it did. -/
def fnExactSortSpaceUptoRow : OpenClaim := { program := "ytgniopdjplppdaadoor", sum := "5e3f765f64a4db6bf657834f9fc86c4d964f0be0cb0a9696021249847b9c150d", func := "loop.example/g00024/laws.FnExactSortSpace", spec := "fnExactSortSpace", unfollowed := true, recurses := true, named := ["loop.example/g00024/impl.spreadOf"], apart := false, laid := [("loop.example/g00024/impl.spreadOf", laid_loop_example_g00024_impl_spreadOf)], narrowed := true }
def FnExactSortSpaceUptoSaid : Prop := fnExactSortSpaceUptoRow.holds Tryd.pinned (OpenSpec.upto fnExactSortSpaceSpec)

/-- 'laws.FnExactInBox', WHERE WHAT IT READS IS OF BULK AT MOST 1048576: true; the input reads as it did. -/
def fnExactInBoxUptoRow : OpenClaim := { program := "ytgniopdjplppdaadoor", sum := "5e3f765f64a4db6bf657834f9fc86c4d964f0be0cb0a9696021249847b9c150d", func := "loop.example/g00024/laws.FnExactInBox", spec := "fnExactInBox", unfollowed := true, recurses := true, named := ["loop.example/g00024/impl.spreadOf"], apart := false, laid := [("loop.example/g00024/impl.spreadOf", laid_loop_example_g00024_impl_spreadOf)], narrowed := true }
def FnExactInBoxUptoSaid : Prop := fnExactInBoxUptoRow.holds Tryd.pinned (OpenSpec.upto fnExactInBoxSpec)

end Rows
end Go.Proofs.YtgniopdjplppdaaDoor
