/-
  No cell of these rows narrows 'for every input' (looked for: loops, veiled, ifaces, maps, wideKeys, modest, calm, conditions, laid).
  DERIVED. THE GIVEN ROWS OF THIS SEAT. 11 by the template 'for every input the law returns true; each argument reads behind the call as it read before'; 0 by the template 'total and deterministic' (their statements: YtbebgfhblalghaaTotals.lean).
  GIVEN WITH THE SEED: the statements are not yours to turn. If you find one false, say at which input.
  Laid BY PROGRAM, IN A SANDBOX (cutbox-rows.mjs): the forced cells as the released guide's own fill.sh prints them over the translation c19c196660889592… (all of the seat's roots in one cut). By AI agents, Wed Nov 11 2026. No macro, syntax, notation, axiom, sorry.
-/
import Derived.Test.YtbebgfhblalghaaChecked
import GoSem.Claim
import GoSem.ClaimJoined
import GoSem.ClaimMapViews
import Derived.JoinedTies
import Derived.KernelRfl
namespace Go.Proofs.Ytbebgfhblalghaa
/- THE CELL 'sum', in the pinned program and in every row, IS THE sha256 OF THE DUMP (.gsa) THAT YtbebgfhblalghaaProg.lean LOADS. Nothing in Lean hashes anything: it is a label: what it is worth is what the hold of that sum in a sandbox is worth. -/
noncomputable def Try.pinned : Pinned := { name := "ytbebgfhblalghaa", sum := "c19c1966608895924e6bb7d91bba62c8c3b30bc6ab2f8c14aa4b860c0d9cd62b", checked := Try.checked }
namespace Rows
def none {H : Type} : Left H := { results := [], args := [] }

/-- 'laws.FnExactLabelsOk': WHATEVER THE INPUT: true; the input reads as it did. -/
def fnExactLabelsOkSpec : ChangeSpec := { name := "fnExactLabelsOk", fn := fun _ => fun
  | [d] => { results := [.lit (.bool true)], args := [d] }
  | _ => none }
def fnExactLabelsOkRow : OpenClaim := { program := "ytbebgfhblalghaa", sum := "c19c1966608895924e6bb7d91bba62c8c3b30bc6ab2f8c14aa4b860c0d9cd62b", func := "loop.example/g00024/laws.FnExactLabelsOk", spec := "fnExactLabelsOk", plainKeys := false, apart := false }
def FnExactLabelsOkSaid : Prop := fnExactLabelsOkRow.holds Try.pinned (OpenSpec.ofChange fnExactLabelsOkSpec)

/-- ITS FALSE NEIGHBOUR: 'it returns false'. Refute it at one input. -/
def fnExactLabelsOkWrong : ChangeSpec := { name := "fnExactLabelsOk", fn := fun _ => fun
  | [d] => { results := [.lit (.bool false)], args := [d] }
  | _ => none }
def FnExactLabelsOkWrongFalsely : Prop := fnExactLabelsOkRow.holds Try.pinned (OpenSpec.ofChange fnExactLabelsOkWrong)

/-- 'laws.FnExactOverlap': WHATEVER THE INPUT: true; the input reads as it did. -/
def fnExactOverlapSpec : ChangeSpec := { name := "fnExactOverlap", fn := fun _ => fun
  | [d1, d2] => { results := [.lit (.bool true)], args := [d1, d2] }
  | _ => none }
def fnExactOverlapRow : OpenClaim := { program := "ytbebgfhblalghaa", sum := "c19c1966608895924e6bb7d91bba62c8c3b30bc6ab2f8c14aa4b860c0d9cd62b", func := "loop.example/g00024/laws.FnExactOverlap", spec := "fnExactOverlap", plainKeys := false, apart := false }
def FnExactOverlapSaid : Prop := fnExactOverlapRow.holds Try.pinned (OpenSpec.ofChange fnExactOverlapSpec)

/-- ITS FALSE NEIGHBOUR: 'it returns false'. Refute it at one input. -/
def fnExactOverlapWrong : ChangeSpec := { name := "fnExactOverlap", fn := fun _ => fun
  | [d1, d2] => { results := [.lit (.bool false)], args := [d1, d2] }
  | _ => none }
def FnExactOverlapWrongFalsely : Prop := fnExactOverlapRow.holds Try.pinned (OpenSpec.ofChange fnExactOverlapWrong)

/-- 'laws.FnExactWeight': WHATEVER THE INPUT: true; the input reads as it did. -/
def fnExactWeightSpec : ChangeSpec := { name := "fnExactWeight", fn := fun _ => fun
  | [d1, d2] => { results := [.lit (.bool true)], args := [d1, d2] }
  | _ => none }
def fnExactWeightRow : OpenClaim := { program := "ytbebgfhblalghaa", sum := "c19c1966608895924e6bb7d91bba62c8c3b30bc6ab2f8c14aa4b860c0d9cd62b", func := "loop.example/g00024/laws.FnExactWeight", spec := "fnExactWeight", plainKeys := false, apart := false }
def FnExactWeightSaid : Prop := fnExactWeightRow.holds Try.pinned (OpenSpec.ofChange fnExactWeightSpec)

/-- ITS FALSE NEIGHBOUR: 'it returns false'. Refute it at one input. -/
def fnExactWeightWrong : ChangeSpec := { name := "fnExactWeight", fn := fun _ => fun
  | [d1, d2] => { results := [.lit (.bool false)], args := [d1, d2] }
  | _ => none }
def FnExactWeightWrongFalsely : Prop := fnExactWeightRow.holds Try.pinned (OpenSpec.ofChange fnExactWeightWrong)

/-- 'laws.FnExactSpaced': WHATEVER THE INPUT: true; the input reads as it did. -/
def fnExactSpacedSpec : ChangeSpec := { name := "fnExactSpaced", fn := fun _ => fun
  | [d1, d2] => { results := [.lit (.bool true)], args := [d1, d2] }
  | _ => none }
def fnExactSpacedRow : OpenClaim := { program := "ytbebgfhblalghaa", sum := "c19c1966608895924e6bb7d91bba62c8c3b30bc6ab2f8c14aa4b860c0d9cd62b", func := "loop.example/g00024/laws.FnExactSpaced", spec := "fnExactSpaced", unfollowed := true, recurses := true, plainKeys := false, apart := false }
def FnExactSpacedSaid : Prop := fnExactSpacedRow.holds Try.pinned (OpenSpec.ofChange fnExactSpacedSpec)

/-- ITS FALSE NEIGHBOUR: 'it returns false'. Refute it at one input. -/
def fnExactSpacedWrong : ChangeSpec := { name := "fnExactSpaced", fn := fun _ => fun
  | [d1, d2] => { results := [.lit (.bool false)], args := [d1, d2] }
  | _ => none }
def FnExactSpacedWrongFalsely : Prop := fnExactSpacedRow.holds Try.pinned (OpenSpec.ofChange fnExactSpacedWrong)

/-- 'laws.FnExactPlace': WHATEVER THE INPUT: true; the input reads as it did. -/
def fnExactPlaceSpec : ChangeSpec := { name := "fnExactPlace", fn := fun _ => fun
  | [d1, d2] => { results := [.lit (.bool true)], args := [d1, d2] }
  | _ => none }
def fnExactPlaceRow : OpenClaim := { program := "ytbebgfhblalghaa", sum := "c19c1966608895924e6bb7d91bba62c8c3b30bc6ab2f8c14aa4b860c0d9cd62b", func := "loop.example/g00024/laws.FnExactPlace", spec := "fnExactPlace", unfollowed := true, recurses := true, plainKeys := false, apart := false }
def FnExactPlaceSaid : Prop := fnExactPlaceRow.holds Try.pinned (OpenSpec.ofChange fnExactPlaceSpec)

/-- ITS FALSE NEIGHBOUR: 'it returns false'. Refute it at one input. -/
def fnExactPlaceWrong : ChangeSpec := { name := "fnExactPlace", fn := fun _ => fun
  | [d1, d2] => { results := [.lit (.bool false)], args := [d1, d2] }
  | _ => none }
def FnExactPlaceWrongFalsely : Prop := fnExactPlaceRow.holds Try.pinned (OpenSpec.ofChange fnExactPlaceWrong)

/-- 'laws.FnExactSteady': WHATEVER THE INPUT: true; the input reads as it did. -/
def fnExactSteadySpec : ChangeSpec := { name := "fnExactSteady", fn := fun _ => fun
  | [d] => { results := [.lit (.bool true)], args := [d] }
  | _ => none }
def fnExactSteadyRow : OpenClaim := { program := "ytbebgfhblalghaa", sum := "c19c1966608895924e6bb7d91bba62c8c3b30bc6ab2f8c14aa4b860c0d9cd62b", func := "loop.example/g00024/laws.FnExactSteady", spec := "fnExactSteady", unfollowed := true, recurses := true, plainKeys := false, apart := false }
def FnExactSteadySaid : Prop := fnExactSteadyRow.holds Try.pinned (OpenSpec.ofChange fnExactSteadySpec)

/-- ITS FALSE NEIGHBOUR: 'it returns false'. Refute it at one input. -/
def fnExactSteadyWrong : ChangeSpec := { name := "fnExactSteady", fn := fun _ => fun
  | [d] => { results := [.lit (.bool false)], args := [d] }
  | _ => none }
def FnExactSteadyWrongFalsely : Prop := fnExactSteadyRow.holds Try.pinned (OpenSpec.ofChange fnExactSteadyWrong)

/-- 'laws.FnExactApplies': WHATEVER THE INPUT: true; the input reads as it did. -/
def fnExactAppliesSpec : ChangeSpec := { name := "fnExactApplies", fn := fun _ => fun
  | [d1, d2, d3] => { results := [.lit (.bool true)], args := [d1, d2, d3] }
  | _ => none }
def fnExactAppliesRow : OpenClaim := { program := "ytbebgfhblalghaa", sum := "c19c1966608895924e6bb7d91bba62c8c3b30bc6ab2f8c14aa4b860c0d9cd62b", func := "loop.example/g00024/laws.FnExactApplies", spec := "fnExactApplies", unfollowed := true, recurses := true, plainKeys := false, apart := false }
def FnExactAppliesSaid : Prop := fnExactAppliesRow.holds Try.pinned (OpenSpec.ofChange fnExactAppliesSpec)

/-- ITS FALSE NEIGHBOUR: 'it returns false'. Refute it at one input. -/
def fnExactAppliesWrong : ChangeSpec := { name := "fnExactApplies", fn := fun _ => fun
  | [d1, d2, d3] => { results := [.lit (.bool false)], args := [d1, d2, d3] }
  | _ => none }
def FnExactAppliesWrongFalsely : Prop := fnExactAppliesRow.holds Try.pinned (OpenSpec.ofChange fnExactAppliesWrong)

/-- 'laws.FnExactPaint': WHATEVER THE INPUT: true; the input reads as it did. -/
def fnExactPaintSpec : ChangeSpec := { name := "fnExactPaint", fn := fun _ => fun
  | [d1, d2, d3] => { results := [.lit (.bool true)], args := [d1, d2, d3] }
  | _ => none }
def fnExactPaintRow : OpenClaim := { program := "ytbebgfhblalghaa", sum := "c19c1966608895924e6bb7d91bba62c8c3b30bc6ab2f8c14aa4b860c0d9cd62b", func := "loop.example/g00024/laws.FnExactPaint", spec := "fnExactPaint", unfollowed := true, recurses := true, plainKeys := false, apart := false }
def FnExactPaintSaid : Prop := fnExactPaintRow.holds Try.pinned (OpenSpec.ofChange fnExactPaintSpec)

/-- ITS FALSE NEIGHBOUR: 'it returns false'. Refute it at one input. -/
def fnExactPaintWrong : ChangeSpec := { name := "fnExactPaint", fn := fun _ => fun
  | [d1, d2, d3] => { results := [.lit (.bool false)], args := [d1, d2, d3] }
  | _ => none }
def FnExactPaintWrongFalsely : Prop := fnExactPaintRow.holds Try.pinned (OpenSpec.ofChange fnExactPaintWrong)

/-- 'laws.FnExactStrokes': WHATEVER THE INPUT: true; the input reads as it did. -/
def fnExactStrokesSpec : ChangeSpec := { name := "fnExactStrokes", fn := fun _ => fun
  | [d1, d2] => { results := [.lit (.bool true)], args := [d1, d2] }
  | _ => none }
def fnExactStrokesRow : OpenClaim := { program := "ytbebgfhblalghaa", sum := "c19c1966608895924e6bb7d91bba62c8c3b30bc6ab2f8c14aa4b860c0d9cd62b", func := "loop.example/g00024/laws.FnExactStrokes", spec := "fnExactStrokes", unfollowed := true, recurses := true, plainKeys := false, apart := false }
def FnExactStrokesSaid : Prop := fnExactStrokesRow.holds Try.pinned (OpenSpec.ofChange fnExactStrokesSpec)

/-- ITS FALSE NEIGHBOUR: 'it returns false'. Refute it at one input. -/
def fnExactStrokesWrong : ChangeSpec := { name := "fnExactStrokes", fn := fun _ => fun
  | [d1, d2] => { results := [.lit (.bool false)], args := [d1, d2] }
  | _ => none }
def FnExactStrokesWrongFalsely : Prop := fnExactStrokesRow.holds Try.pinned (OpenSpec.ofChange fnExactStrokesWrong)

/-- 'laws.FnExactPicture': WHATEVER THE INPUT: true; the input reads as it did. -/
def fnExactPictureSpec : ChangeSpec := { name := "fnExactPicture", fn := fun _ => fun
  | [d1, d2] => { results := [.lit (.bool true)], args := [d1, d2] }
  | _ => none }
def fnExactPictureRow : OpenClaim := { program := "ytbebgfhblalghaa", sum := "c19c1966608895924e6bb7d91bba62c8c3b30bc6ab2f8c14aa4b860c0d9cd62b", func := "loop.example/g00024/laws.FnExactPicture", spec := "fnExactPicture", inPlace := ["internal/bytealg.MakeNoZero"], unfollowed := true, recurses := true, plainKeys := false, apart := false }
def FnExactPictureSaid : Prop := fnExactPictureRow.holds Try.pinned (OpenSpec.ofChange fnExactPictureSpec)

/-- ITS FALSE NEIGHBOUR: 'it returns false'. Refute it at one input. -/
def fnExactPictureWrong : ChangeSpec := { name := "fnExactPicture", fn := fun _ => fun
  | [d1, d2] => { results := [.lit (.bool false)], args := [d1, d2] }
  | _ => none }
def FnExactPictureWrongFalsely : Prop := fnExactPictureRow.holds Try.pinned (OpenSpec.ofChange fnExactPictureWrong)

/-- 'laws.FnExactClip': WHATEVER THE INPUT: true; the input reads as it did. -/
def fnExactClipSpec : ChangeSpec := { name := "fnExactClip", fn := fun _ => fun
  | [d1, d2] => { results := [.lit (.bool true)], args := [d1, d2] }
  | _ => none }
def fnExactClipRow : OpenClaim := { program := "ytbebgfhblalghaa", sum := "c19c1966608895924e6bb7d91bba62c8c3b30bc6ab2f8c14aa4b860c0d9cd62b", func := "loop.example/g00024/laws.FnExactClip", spec := "fnExactClip", unfollowed := true, recurses := true, plainKeys := false, apart := false }
def FnExactClipSaid : Prop := fnExactClipRow.holds Try.pinned (OpenSpec.ofChange fnExactClipSpec)

/-- ITS FALSE NEIGHBOUR: 'it returns false'. Refute it at one input. -/
def fnExactClipWrong : ChangeSpec := { name := "fnExactClip", fn := fun _ => fun
  | [d1, d2] => { results := [.lit (.bool false)], args := [d1, d2] }
  | _ => none }
def FnExactClipWrongFalsely : Prop := fnExactClipRow.holds Try.pinned (OpenSpec.ofChange fnExactClipWrong)

/- THE SECOND FORM. 'bulk': how many values and letters a reading holds, each counted each time it is reached (what is shared counts as often as it is met; a slice's spare places count too). A statement '..UptoSaid' is the law's where the arguments, and the package variables that the reading takes, are together of bulk at most 1048576: NARROWER than '..Said'. Prove '..Said' where nothing that the law and all that it calls make is longer than what came in: it says more and counts as full. Else prove '..UptoSaid'. A law counts once. -/
mutual
def uptoBulk {H : Type} : DataW H → Nat
  | .lit (.string bytes) => bytes.length + 1
  | .lit _ => 1
  | .nil => 1
  | .ptr d => uptoBulk d + 1
  | .slice elems spare => uptoBulkAll elems + uptoBulkAll spare + 1
  | .agg parts => uptoBulkAll parts + 1
  | .iface _ d => uptoBulk d + 1
  | .map entries => uptoBulkEntries entries + 1
  | .held _ => 1
def uptoBulkAll {H : Type} : List (DataW H) → Nat
  | [] => 0
  | d :: r => uptoBulk d + uptoBulkAll r
def uptoBulkEntries {H : Type} : List (Lit × DataW H) → Nat
  | [] => 0
  | x :: r => uptoBulkEntry x + uptoBulkEntries r
def uptoBulkEntry {H : Type} : Lit × DataW H → Nat
  | (.string bytes, d) => bytes.length + uptoBulk d + 1
  | (_, d) => uptoBulk d + 1
 end
def uptoSmall : (H : Type) → List (DataW H) → Bool := fun _ ds => decide (uptoBulkAll ds ≤ 1048576)
def OpenSpec.upto (s : _root_.Go.ChangeSpec) : _root_.Go.OpenSpec := { _root_.Go.OpenSpec.ofChange s with cond := some uptoSmall }

/-- 'laws.FnExactLabelsOk', WHERE WHAT IT READS IS OF BULK AT MOST 1048576: true; the input reads as it did. -/
def fnExactLabelsOkUptoRow : OpenClaim := { program := "ytbebgfhblalghaa", sum := "c19c1966608895924e6bb7d91bba62c8c3b30bc6ab2f8c14aa4b860c0d9cd62b", func := "loop.example/g00024/laws.FnExactLabelsOk", spec := "fnExactLabelsOk", plainKeys := false, apart := false, narrowed := true }
def FnExactLabelsOkUptoSaid : Prop := fnExactLabelsOkUptoRow.holds Try.pinned (OpenSpec.upto fnExactLabelsOkSpec)

/-- 'laws.FnExactOverlap', WHERE WHAT IT READS IS OF BULK AT MOST 1048576: true; the input reads as it did. -/
def fnExactOverlapUptoRow : OpenClaim := { program := "ytbebgfhblalghaa", sum := "c19c1966608895924e6bb7d91bba62c8c3b30bc6ab2f8c14aa4b860c0d9cd62b", func := "loop.example/g00024/laws.FnExactOverlap", spec := "fnExactOverlap", plainKeys := false, apart := false, narrowed := true }
def FnExactOverlapUptoSaid : Prop := fnExactOverlapUptoRow.holds Try.pinned (OpenSpec.upto fnExactOverlapSpec)

/-- 'laws.FnExactWeight', WHERE WHAT IT READS IS OF BULK AT MOST 1048576: true; the input reads as it did. -/
def fnExactWeightUptoRow : OpenClaim := { program := "ytbebgfhblalghaa", sum := "c19c1966608895924e6bb7d91bba62c8c3b30bc6ab2f8c14aa4b860c0d9cd62b", func := "loop.example/g00024/laws.FnExactWeight", spec := "fnExactWeight", plainKeys := false, apart := false, narrowed := true }
def FnExactWeightUptoSaid : Prop := fnExactWeightUptoRow.holds Try.pinned (OpenSpec.upto fnExactWeightSpec)

/-- 'laws.FnExactSpaced', WHERE WHAT IT READS IS OF BULK AT MOST 1048576: true; the input reads as it did. -/
def fnExactSpacedUptoRow : OpenClaim := { program := "ytbebgfhblalghaa", sum := "c19c1966608895924e6bb7d91bba62c8c3b30bc6ab2f8c14aa4b860c0d9cd62b", func := "loop.example/g00024/laws.FnExactSpaced", spec := "fnExactSpaced", unfollowed := true, recurses := true, plainKeys := false, apart := false, narrowed := true }
def FnExactSpacedUptoSaid : Prop := fnExactSpacedUptoRow.holds Try.pinned (OpenSpec.upto fnExactSpacedSpec)

/-- 'laws.FnExactPlace', WHERE WHAT IT READS IS OF BULK AT MOST 1048576: true; the input reads as it did. -/
def fnExactPlaceUptoRow : OpenClaim := { program := "ytbebgfhblalghaa", sum := "c19c1966608895924e6bb7d91bba62c8c3b30bc6ab2f8c14aa4b860c0d9cd62b", func := "loop.example/g00024/laws.FnExactPlace", spec := "fnExactPlace", unfollowed := true, recurses := true, plainKeys := false, apart := false, narrowed := true }
def FnExactPlaceUptoSaid : Prop := fnExactPlaceUptoRow.holds Try.pinned (OpenSpec.upto fnExactPlaceSpec)

/-- 'laws.FnExactSteady', WHERE WHAT IT READS IS OF BULK AT MOST 1048576: true; the input reads as it did. -/
def fnExactSteadyUptoRow : OpenClaim := { program := "ytbebgfhblalghaa", sum := "c19c1966608895924e6bb7d91bba62c8c3b30bc6ab2f8c14aa4b860c0d9cd62b", func := "loop.example/g00024/laws.FnExactSteady", spec := "fnExactSteady", unfollowed := true, recurses := true, plainKeys := false, apart := false, narrowed := true }
def FnExactSteadyUptoSaid : Prop := fnExactSteadyUptoRow.holds Try.pinned (OpenSpec.upto fnExactSteadySpec)

/-- 'laws.FnExactApplies', WHERE WHAT IT READS IS OF BULK AT MOST 1048576: true; the input reads as it did. -/
def fnExactAppliesUptoRow : OpenClaim := { program := "ytbebgfhblalghaa", sum := "c19c1966608895924e6bb7d91bba62c8c3b30bc6ab2f8c14aa4b860c0d9cd62b", func := "loop.example/g00024/laws.FnExactApplies", spec := "fnExactApplies", unfollowed := true, recurses := true, plainKeys := false, apart := false, narrowed := true }
def FnExactAppliesUptoSaid : Prop := fnExactAppliesUptoRow.holds Try.pinned (OpenSpec.upto fnExactAppliesSpec)

/-- 'laws.FnExactPaint', WHERE WHAT IT READS IS OF BULK AT MOST 1048576: true; the input reads as it did. -/
def fnExactPaintUptoRow : OpenClaim := { program := "ytbebgfhblalghaa", sum := "c19c1966608895924e6bb7d91bba62c8c3b30bc6ab2f8c14aa4b860c0d9cd62b", func := "loop.example/g00024/laws.FnExactPaint", spec := "fnExactPaint", unfollowed := true, recurses := true, plainKeys := false, apart := false, narrowed := true }
def FnExactPaintUptoSaid : Prop := fnExactPaintUptoRow.holds Try.pinned (OpenSpec.upto fnExactPaintSpec)

/-- 'laws.FnExactStrokes', WHERE WHAT IT READS IS OF BULK AT MOST 1048576: true; the input reads as it did. -/
def fnExactStrokesUptoRow : OpenClaim := { program := "ytbebgfhblalghaa", sum := "c19c1966608895924e6bb7d91bba62c8c3b30bc6ab2f8c14aa4b860c0d9cd62b", func := "loop.example/g00024/laws.FnExactStrokes", spec := "fnExactStrokes", unfollowed := true, recurses := true, plainKeys := false, apart := false, narrowed := true }
def FnExactStrokesUptoSaid : Prop := fnExactStrokesUptoRow.holds Try.pinned (OpenSpec.upto fnExactStrokesSpec)

/-- 'laws.FnExactPicture', WHERE WHAT IT READS IS OF BULK AT MOST 1048576: true; the input reads as it did. -/
def fnExactPictureUptoRow : OpenClaim := { program := "ytbebgfhblalghaa", sum := "c19c1966608895924e6bb7d91bba62c8c3b30bc6ab2f8c14aa4b860c0d9cd62b", func := "loop.example/g00024/laws.FnExactPicture", spec := "fnExactPicture", inPlace := ["internal/bytealg.MakeNoZero"], unfollowed := true, recurses := true, plainKeys := false, apart := false, narrowed := true }
def FnExactPictureUptoSaid : Prop := fnExactPictureUptoRow.holds Try.pinned (OpenSpec.upto fnExactPictureSpec)

/-- 'laws.FnExactClip', WHERE WHAT IT READS IS OF BULK AT MOST 1048576: true; the input reads as it did. -/
def fnExactClipUptoRow : OpenClaim := { program := "ytbebgfhblalghaa", sum := "c19c1966608895924e6bb7d91bba62c8c3b30bc6ab2f8c14aa4b860c0d9cd62b", func := "loop.example/g00024/laws.FnExactClip", spec := "fnExactClip", unfollowed := true, recurses := true, plainKeys := false, apart := false, narrowed := true }
def FnExactClipUptoSaid : Prop := fnExactClipUptoRow.holds Try.pinned (OpenSpec.upto fnExactClipSpec)

end Rows
end Go.Proofs.Ytbebgfhblalghaa
