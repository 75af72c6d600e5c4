/-
  No cell of these rows narrows 'for every input' (looked for: loops, veiled, ifaces, maps, wideKeys, modest, calm, conditions, laid).
  DERIVED. THE GIVEN ROWS OF THIS SEAT. 5 by the template 'for every input the law returns true; each argument reads behind the call as it read before'; 0 by the template 'total and deterministic' (their statements: YthlgednppcapbaaTotals.lean).
  GIVEN WITH THE SEED: the statements are not yours to turn. If you find one false, say at which input.
  Laid BY PROGRAM, IN A SANDBOX (cutbox-rows.mjs): the forced cells as the released guide's own fill.sh prints them over the translation d5f6f1620e8dfb94… (all of the seat's roots in one cut). By AI agents, Wed Nov 11 2026. No macro, syntax, notation, axiom, sorry.
-/
import Derived.Test.YthlgednppcapbaaChecked
import GoSem.Claim
import GoSem.ClaimJoined
import GoSem.ClaimMapViews
import Derived.JoinedTies
import Derived.KernelRfl
namespace Go.Proofs.Ythlgednppcapbaa
/- THE CELL 'sum', in the pinned program and in every row, IS THE sha256 OF THE DUMP (.gsa) THAT YthlgednppcapbaaProg.lean LOADS. Nothing in Lean hashes anything: it is a label: what it is worth is what the hold of that sum in a sandbox is worth. -/
noncomputable def Try.pinned : Pinned := { name := "ythlgednppcapbaa", sum := "d5f6f1620e8dfb9402b38514d599e55db427c531c39727a94bbcd49a884c4eff", checked := Try.checked }
namespace Rows
def none {H : Type} : Left H := { results := [], args := [] }

/-- 'laws.FnExactTileOk': WHATEVER THE INPUT: true; the input reads as it did. -/
def fnExactTileOkSpec : ChangeSpec := { name := "fnExactTileOk", fn := fun _ => fun
  | [d] => { results := [.lit (.bool true)], args := [d] }
  | _ => none }
def fnExactTileOkRow : OpenClaim := { program := "ythlgednppcapbaa", sum := "d5f6f1620e8dfb9402b38514d599e55db427c531c39727a94bbcd49a884c4eff", func := "loop.example/g00024/laws.FnExactTileOk", spec := "fnExactTileOk", apart := false }
def FnExactTileOkSaid : Prop := fnExactTileOkRow.holds Try.pinned (OpenSpec.ofChange fnExactTileOkSpec)

/-- ITS FALSE NEIGHBOUR: 'it returns false'. Refute it at one input. -/
def fnExactTileOkWrong : ChangeSpec := { name := "fnExactTileOk", fn := fun _ => fun
  | [d] => { results := [.lit (.bool false)], args := [d] }
  | _ => none }
def FnExactTileOkWrongFalsely : Prop := fnExactTileOkRow.holds Try.pinned (OpenSpec.ofChange fnExactTileOkWrong)

/-- 'laws.FnExactTileBox': WHATEVER THE INPUT: true; the input reads as it did. -/
def fnExactTileBoxSpec : ChangeSpec := { name := "fnExactTileBox", fn := fun _ => fun
  | [d] => { results := [.lit (.bool true)], args := [d] }
  | _ => none }
def fnExactTileBoxRow : OpenClaim := { program := "ythlgednppcapbaa", sum := "d5f6f1620e8dfb9402b38514d599e55db427c531c39727a94bbcd49a884c4eff", func := "loop.example/g00024/laws.FnExactTileBox", spec := "fnExactTileBox", apart := false }
def FnExactTileBoxSaid : Prop := fnExactTileBoxRow.holds Try.pinned (OpenSpec.ofChange fnExactTileBoxSpec)

/-- ITS FALSE NEIGHBOUR: 'it returns false'. Refute it at one input. -/
def fnExactTileBoxWrong : ChangeSpec := { name := "fnExactTileBox", fn := fun _ => fun
  | [d] => { results := [.lit (.bool false)], args := [d] }
  | _ => none }
def FnExactTileBoxWrongFalsely : Prop := fnExactTileBoxRow.holds Try.pinned (OpenSpec.ofChange fnExactTileBoxWrong)

/-- 'laws.FnExactTilesOf': WHATEVER THE INPUT: true; the input reads as it did. -/
def fnExactTilesOfSpec : ChangeSpec := { name := "fnExactTilesOf", fn := fun _ => fun
  | [d1, d2] => { results := [.lit (.bool true)], args := [d1, d2] }
  | _ => none }
def fnExactTilesOfRow : OpenClaim := { program := "ythlgednppcapbaa", sum := "d5f6f1620e8dfb9402b38514d599e55db427c531c39727a94bbcd49a884c4eff", func := "loop.example/g00024/laws.FnExactTilesOf", spec := "fnExactTilesOf", apart := false }
def FnExactTilesOfSaid : Prop := fnExactTilesOfRow.holds Try.pinned (OpenSpec.ofChange fnExactTilesOfSpec)

/-- ITS FALSE NEIGHBOUR: 'it returns false'. Refute it at one input. -/
def fnExactTilesOfWrong : ChangeSpec := { name := "fnExactTilesOf", fn := fun _ => fun
  | [d1, d2] => { results := [.lit (.bool false)], args := [d1, d2] }
  | _ => none }
def FnExactTilesOfWrongFalsely : Prop := fnExactTilesOfRow.holds Try.pinned (OpenSpec.ofChange fnExactTilesOfWrong)

/-- 'laws.FnExactClip': WHATEVER THE INPUT: true; the input reads as it did. -/
def fnExactClipSpec : ChangeSpec := { name := "fnExactClip", fn := fun _ => fun
  | [d1, d2] => { results := [.lit (.bool true)], args := [d1, d2] }
  | _ => none }
def fnExactClipRow : OpenClaim := { program := "ythlgednppcapbaa", sum := "d5f6f1620e8dfb9402b38514d599e55db427c531c39727a94bbcd49a884c4eff", func := "loop.example/g00024/laws.FnExactClip", spec := "fnExactClip", unfollowed := true, recurses := true, apart := false }
def FnExactClipSaid : Prop := fnExactClipRow.holds Try.pinned (OpenSpec.ofChange fnExactClipSpec)

/-- ITS FALSE NEIGHBOUR: 'it returns false'. Refute it at one input. -/
def fnExactClipWrong : ChangeSpec := { name := "fnExactClip", fn := fun _ => fun
  | [d1, d2] => { results := [.lit (.bool false)], args := [d1, d2] }
  | _ => none }
def FnExactClipWrongFalsely : Prop := fnExactClipRow.holds Try.pinned (OpenSpec.ofChange fnExactClipWrong)

/-- 'laws.FnExactQuantise': WHATEVER THE INPUT: true; the input reads as it did. -/
def fnExactQuantiseSpec : ChangeSpec := { name := "fnExactQuantise", fn := fun _ => fun
  | [d1, d2] => { results := [.lit (.bool true)], args := [d1, d2] }
  | _ => none }
def fnExactQuantiseRow : OpenClaim := { program := "ythlgednppcapbaa", sum := "d5f6f1620e8dfb9402b38514d599e55db427c531c39727a94bbcd49a884c4eff", func := "loop.example/g00024/laws.FnExactQuantise", spec := "fnExactQuantise", unfollowed := true, recurses := true, apart := false }
def FnExactQuantiseSaid : Prop := fnExactQuantiseRow.holds Try.pinned (OpenSpec.ofChange fnExactQuantiseSpec)

/-- ITS FALSE NEIGHBOUR: 'it returns false'. Refute it at one input. -/
def fnExactQuantiseWrong : ChangeSpec := { name := "fnExactQuantise", fn := fun _ => fun
  | [d1, d2] => { results := [.lit (.bool false)], args := [d1, d2] }
  | _ => none }
def FnExactQuantiseWrongFalsely : Prop := fnExactQuantiseRow.holds Try.pinned (OpenSpec.ofChange fnExactQuantiseWrong)

/- THE SECOND FORM. 'bulk': how many values and letters a reading holds, each counted each time it is reached (what is shared counts as often as it is met; a slice's spare places count too). A statement '..UptoSaid' is the law's where the arguments, and the package variables that the reading takes, are together of bulk at most 1048576: NARROWER than '..Said'. Prove '..Said' where nothing that the law and all that it calls make is longer than what came in: it says more and counts as full. Else prove '..UptoSaid'. A law counts once. -/
mutual
def uptoBulk {H : Type} : DataW H → Nat
  | .lit (.string bytes) => bytes.length + 1
  | .lit _ => 1
  | .nil => 1
  | .ptr d => uptoBulk d + 1
  | .slice elems spare => uptoBulkAll elems + uptoBulkAll spare + 1
  | .agg parts => uptoBulkAll parts + 1
  | .iface _ d => uptoBulk d + 1
  | .map entries => uptoBulkEntries entries + 1
  | .held _ => 1
def uptoBulkAll {H : Type} : List (DataW H) → Nat
  | [] => 0
  | d :: r => uptoBulk d + uptoBulkAll r
def uptoBulkEntries {H : Type} : List (Lit × DataW H) → Nat
  | [] => 0
  | x :: r => uptoBulkEntry x + uptoBulkEntries r
def uptoBulkEntry {H : Type} : Lit × DataW H → Nat
  | (.string bytes, d) => bytes.length + uptoBulk d + 1
  | (_, d) => uptoBulk d + 1
 end
def uptoSmall : (H : Type) → List (DataW H) → Bool := fun _ ds => decide (uptoBulkAll ds ≤ 1048576)
def OpenSpec.upto (s : _root_.Go.ChangeSpec) : _root_.Go.OpenSpec := { _root_.Go.OpenSpec.ofChange s with cond := some uptoSmall }

/-- 'laws.FnExactTileOk', WHERE WHAT IT READS IS OF BULK AT MOST 1048576: true; the input reads as it did. -/
def fnExactTileOkUptoRow : OpenClaim := { program := "ythlgednppcapbaa", sum := "d5f6f1620e8dfb9402b38514d599e55db427c531c39727a94bbcd49a884c4eff", func := "loop.example/g00024/laws.FnExactTileOk", spec := "fnExactTileOk", apart := false, narrowed := true }
def FnExactTileOkUptoSaid : Prop := fnExactTileOkUptoRow.holds Try.pinned (OpenSpec.upto fnExactTileOkSpec)

/-- 'laws.FnExactTileBox', WHERE WHAT IT READS IS OF BULK AT MOST 1048576: true; the input reads as it did. -/
def fnExactTileBoxUptoRow : OpenClaim := { program := "ythlgednppcapbaa", sum := "d5f6f1620e8dfb9402b38514d599e55db427c531c39727a94bbcd49a884c4eff", func := "loop.example/g00024/laws.FnExactTileBox", spec := "fnExactTileBox", apart := false, narrowed := true }
def FnExactTileBoxUptoSaid : Prop := fnExactTileBoxUptoRow.holds Try.pinned (OpenSpec.upto fnExactTileBoxSpec)

/-- 'laws.FnExactTilesOf', WHERE WHAT IT READS IS OF BULK AT MOST 1048576: true; the input reads as it did. -/
def fnExactTilesOfUptoRow : OpenClaim := { program := "ythlgednppcapbaa", sum := "d5f6f1620e8dfb9402b38514d599e55db427c531c39727a94bbcd49a884c4eff", func := "loop.example/g00024/laws.FnExactTilesOf", spec := "fnExactTilesOf", apart := false, narrowed := true }
def FnExactTilesOfUptoSaid : Prop := fnExactTilesOfUptoRow.holds Try.pinned (OpenSpec.upto fnExactTilesOfSpec)

/-- 'laws.FnExactClip', WHERE WHAT IT READS IS OF BULK AT MOST 1048576: true; the input reads as it did. -/
def fnExactClipUptoRow : OpenClaim := { program := "ythlgednppcapbaa", sum := "d5f6f1620e8dfb9402b38514d599e55db427c531c39727a94bbcd49a884c4eff", func := "loop.example/g00024/laws.FnExactClip", spec := "fnExactClip", unfollowed := true, recurses := true, apart := false, narrowed := true }
def FnExactClipUptoSaid : Prop := fnExactClipUptoRow.holds Try.pinned (OpenSpec.upto fnExactClipSpec)

/-- 'laws.FnExactQuantise', WHERE WHAT IT READS IS OF BULK AT MOST 1048576: true; the input reads as it did. -/
def fnExactQuantiseUptoRow : OpenClaim := { program := "ythlgednppcapbaa", sum := "d5f6f1620e8dfb9402b38514d599e55db427c531c39727a94bbcd49a884c4eff", func := "loop.example/g00024/laws.FnExactQuantise", spec := "fnExactQuantise", unfollowed := true, recurses := true, apart := false, narrowed := true }
def FnExactQuantiseUptoSaid : Prop := fnExactQuantiseUptoRow.holds Try.pinned (OpenSpec.upto fnExactQuantiseSpec)

end Rows
end Go.Proofs.Ythlgednppcapbaa
