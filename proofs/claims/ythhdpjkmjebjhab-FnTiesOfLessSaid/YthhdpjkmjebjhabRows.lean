/-
  No cell of these rows narrows 'for every input' (looked for: loops, veiled, ifaces, maps, wideKeys, modest, calm, conditions, laid).
  DERIVED. THE GIVEN ROWS OF THIS SEAT. 9 by the template 'for every input the law returns true; each argument reads behind the call as it read before'; 0 by the template 'total and deterministic' (their statements: YthhdpjkmjebjhabTotals.lean).
  GIVEN WITH THE SEED: the statements are not yours to turn. If you find one false, say at which input.
  Laid BY PROGRAM, IN A SANDBOX (cutbox-rows.mjs): the forced cells as the released guide's own fill.sh prints them over the translation 63bb5453cd2ff042… (all of the seat's roots in one cut). By AI agents, Wed Nov 11 2026. No macro, syntax, notation, axiom, sorry.
-/
import Derived.Test.YthhdpjkmjebjhabChecked
import GoSem.Claim
import GoSem.ClaimJoined
import GoSem.ClaimMapViews
import Derived.JoinedTies
import Derived.KernelRfl
namespace Go.Proofs.Ythhdpjkmjebjhab
/- THE CELL 'sum', in the pinned program and in every row, IS THE sha256 OF THE DUMP (.gsa) THAT YthhdpjkmjebjhabProg.lean LOADS. Nothing in Lean hashes anything: it is a label: what it is worth is what the hold of that sum in a sandbox is worth. -/
noncomputable def Try.pinned : Pinned := { name := "ythhdpjkmjebjhab", sum := "63bb5453cd2ff042f5f8a210355c2511fae074a8707b9d0c210c4dbf148ec1f1", checked := Try.checked }
namespace Rows
def none {H : Type} : Left H := { results := [], args := [] }

/-- 'laws.FnTiesThroughThree': WHATEVER THE INPUT: true; the input reads as it did. -/
def fnTiesThroughThreeSpec : ChangeSpec := { name := "fnTiesThroughThree", fn := fun _ => fun
  | [d] => { results := [.lit (.bool true)], args := [d] }
  | _ => none }
def fnTiesThroughThreeRow : OpenClaim := { program := "ythhdpjkmjebjhab", sum := "63bb5453cd2ff042f5f8a210355c2511fae074a8707b9d0c210c4dbf148ec1f1", func := "loop.example/icecores/laws.FnTiesThroughThree", spec := "fnTiesThroughThree", unfollowed := true, recurses := true, plainKeys := false, apart := false }
def FnTiesThroughThreeSaid : Prop := fnTiesThroughThreeRow.holds Try.pinned (OpenSpec.ofChange fnTiesThroughThreeSpec)

/-- ITS FALSE NEIGHBOUR: 'it returns false'. Refute it at one input. -/
def fnTiesThroughThreeWrong : ChangeSpec := { name := "fnTiesThroughThree", fn := fun _ => fun
  | [d] => { results := [.lit (.bool false)], args := [d] }
  | _ => none }
def FnTiesThroughThreeWrongFalsely : Prop := fnTiesThroughThreeRow.holds Try.pinned (OpenSpec.ofChange fnTiesThroughThreeWrong)

/-- 'laws.FnTiesCurve': WHATEVER THE INPUT: true; the input reads as it did. -/
def fnTiesCurveSpec : ChangeSpec := { name := "fnTiesCurve", fn := fun _ => fun
  | [d] => { results := [.lit (.bool true)], args := [d] }
  | _ => none }
def fnTiesCurveRow : OpenClaim := { program := "ythhdpjkmjebjhab", sum := "63bb5453cd2ff042f5f8a210355c2511fae074a8707b9d0c210c4dbf148ec1f1", func := "loop.example/icecores/laws.FnTiesCurve", spec := "fnTiesCurve", unfollowed := true, recurses := true, plainKeys := false, apart := false }
def FnTiesCurveSaid : Prop := fnTiesCurveRow.holds Try.pinned (OpenSpec.ofChange fnTiesCurveSpec)

/-- ITS FALSE NEIGHBOUR: 'it returns false'. Refute it at one input. -/
def fnTiesCurveWrong : ChangeSpec := { name := "fnTiesCurve", fn := fun _ => fun
  | [d] => { results := [.lit (.bool false)], args := [d] }
  | _ => none }
def FnTiesCurveWrongFalsely : Prop := fnTiesCurveRow.holds Try.pinned (OpenSpec.ofChange fnTiesCurveWrong)

/-- 'laws.FnTiesCurveAt': WHATEVER THE INPUT: true; the input reads as it did. -/
def fnTiesCurveAtSpec : ChangeSpec := { name := "fnTiesCurveAt", fn := fun _ => fun
  | [d1, d2] => { results := [.lit (.bool true)], args := [d1, d2] }
  | _ => none }
def fnTiesCurveAtRow : OpenClaim := { program := "ythhdpjkmjebjhab", sum := "63bb5453cd2ff042f5f8a210355c2511fae074a8707b9d0c210c4dbf148ec1f1", func := "loop.example/icecores/laws.FnTiesCurveAt", spec := "fnTiesCurveAt", unfollowed := true, recurses := true, plainKeys := false, apart := false }
def FnTiesCurveAtSaid : Prop := fnTiesCurveAtRow.holds Try.pinned (OpenSpec.ofChange fnTiesCurveAtSpec)

/-- ITS FALSE NEIGHBOUR: 'it returns false'. Refute it at one input. -/
def fnTiesCurveAtWrong : ChangeSpec := { name := "fnTiesCurveAt", fn := fun _ => fun
  | [d1, d2] => { results := [.lit (.bool false)], args := [d1, d2] }
  | _ => none }
def FnTiesCurveAtWrongFalsely : Prop := fnTiesCurveAtRow.holds Try.pinned (OpenSpec.ofChange fnTiesCurveAtWrong)

/-- 'laws.FnTiesOfLess': WHATEVER THE INPUT: true; the input reads as it did. -/
def fnTiesOfLessSpec : ChangeSpec := { name := "fnTiesOfLess", fn := fun _ => fun
  | [d1, d2] => { results := [.lit (.bool true)], args := [d1, d2] }
  | _ => none }
def fnTiesOfLessRow : OpenClaim := { program := "ythhdpjkmjebjhab", sum := "63bb5453cd2ff042f5f8a210355c2511fae074a8707b9d0c210c4dbf148ec1f1", func := "loop.example/icecores/laws.FnTiesOfLess", spec := "fnTiesOfLess", unfollowed := true, recurses := true, plainKeys := false, apart := false }
def FnTiesOfLessSaid : Prop := fnTiesOfLessRow.holds Try.pinned (OpenSpec.ofChange fnTiesOfLessSpec)

/-- ITS FALSE NEIGHBOUR: 'it returns false'. Refute it at one input. -/
def fnTiesOfLessWrong : ChangeSpec := { name := "fnTiesOfLess", fn := fun _ => fun
  | [d1, d2] => { results := [.lit (.bool false)], args := [d1, d2] }
  | _ => none }
def FnTiesOfLessWrongFalsely : Prop := fnTiesOfLessRow.holds Try.pinned (OpenSpec.ofChange fnTiesOfLessWrong)

/-- 'laws.FnTiesJoinParts': WHATEVER THE INPUT: true; the input reads as it did. -/
def fnTiesJoinPartsSpec : ChangeSpec := { name := "fnTiesJoinParts", fn := fun _ => fun
  | [d1, d2] => { results := [.lit (.bool true)], args := [d1, d2] }
  | _ => none }
def fnTiesJoinPartsRow : OpenClaim := { program := "ythhdpjkmjebjhab", sum := "63bb5453cd2ff042f5f8a210355c2511fae074a8707b9d0c210c4dbf148ec1f1", func := "loop.example/icecores/laws.FnTiesJoinParts", spec := "fnTiesJoinParts", unfollowed := true, recurses := true, plainKeys := false, apart := false }
def FnTiesJoinPartsSaid : Prop := fnTiesJoinPartsRow.holds Try.pinned (OpenSpec.ofChange fnTiesJoinPartsSpec)

/-- ITS FALSE NEIGHBOUR: 'it returns false'. Refute it at one input. -/
def fnTiesJoinPartsWrong : ChangeSpec := { name := "fnTiesJoinParts", fn := fun _ => fun
  | [d1, d2] => { results := [.lit (.bool false)], args := [d1, d2] }
  | _ => none }
def FnTiesJoinPartsWrongFalsely : Prop := fnTiesJoinPartsRow.holds Try.pinned (OpenSpec.ofChange fnTiesJoinPartsWrong)

/-- 'laws.FnTiesThroughLess': WHATEVER THE INPUT: true; the input reads as it did. -/
def fnTiesThroughLessSpec : ChangeSpec := { name := "fnTiesThroughLess", fn := fun _ => fun
  | [d1, d2] => { results := [.lit (.bool true)], args := [d1, d2] }
  | _ => none }
def fnTiesThroughLessRow : OpenClaim := { program := "ythhdpjkmjebjhab", sum := "63bb5453cd2ff042f5f8a210355c2511fae074a8707b9d0c210c4dbf148ec1f1", func := "loop.example/icecores/laws.FnTiesThroughLess", spec := "fnTiesThroughLess", unfollowed := true, recurses := true, plainKeys := false, apart := false }
def FnTiesThroughLessSaid : Prop := fnTiesThroughLessRow.holds Try.pinned (OpenSpec.ofChange fnTiesThroughLessSpec)

/-- ITS FALSE NEIGHBOUR: 'it returns false'. Refute it at one input. -/
def fnTiesThroughLessWrong : ChangeSpec := { name := "fnTiesThroughLess", fn := fun _ => fun
  | [d1, d2] => { results := [.lit (.bool false)], args := [d1, d2] }
  | _ => none }
def FnTiesThroughLessWrongFalsely : Prop := fnTiesThroughLessRow.holds Try.pinned (OpenSpec.ofChange fnTiesThroughLessWrong)

/-- 'laws.FnTiesCurveThrough': WHATEVER THE INPUT: true; the input reads as it did. -/
def fnTiesCurveThroughSpec : ChangeSpec := { name := "fnTiesCurveThrough", fn := fun _ => fun
  | [d] => { results := [.lit (.bool true)], args := [d] }
  | _ => none }
def fnTiesCurveThroughRow : OpenClaim := { program := "ythhdpjkmjebjhab", sum := "63bb5453cd2ff042f5f8a210355c2511fae074a8707b9d0c210c4dbf148ec1f1", func := "loop.example/icecores/laws.FnTiesCurveThrough", spec := "fnTiesCurveThrough", unfollowed := true, recurses := true, plainKeys := false, apart := false }
def FnTiesCurveThroughSaid : Prop := fnTiesCurveThroughRow.holds Try.pinned (OpenSpec.ofChange fnTiesCurveThroughSpec)

/-- ITS FALSE NEIGHBOUR: 'it returns false'. Refute it at one input. -/
def fnTiesCurveThroughWrong : ChangeSpec := { name := "fnTiesCurveThrough", fn := fun _ => fun
  | [d] => { results := [.lit (.bool false)], args := [d] }
  | _ => none }
def FnTiesCurveThroughWrongFalsely : Prop := fnTiesCurveThroughRow.holds Try.pinned (OpenSpec.ofChange fnTiesCurveThroughWrong)

/-- 'laws.FnTiesNone': WHATEVER THE INPUT: true; the input reads as it did. -/
def fnTiesNoneSpec : ChangeSpec := { name := "fnTiesNone", fn := fun _ => fun
  | [d] => { results := [.lit (.bool true)], args := [d] }
  | _ => none }
def fnTiesNoneRow : OpenClaim := { program := "ythhdpjkmjebjhab", sum := "63bb5453cd2ff042f5f8a210355c2511fae074a8707b9d0c210c4dbf148ec1f1", func := "loop.example/icecores/laws.FnTiesNone", spec := "fnTiesNone", unfollowed := true, recurses := true, plainKeys := false, apart := false }
def FnTiesNoneSaid : Prop := fnTiesNoneRow.holds Try.pinned (OpenSpec.ofChange fnTiesNoneSpec)

/-- ITS FALSE NEIGHBOUR: 'it returns false'. Refute it at one input. -/
def fnTiesNoneWrong : ChangeSpec := { name := "fnTiesNone", fn := fun _ => fun
  | [d] => { results := [.lit (.bool false)], args := [d] }
  | _ => none }
def FnTiesNoneWrongFalsely : Prop := fnTiesNoneRow.holds Try.pinned (OpenSpec.ofChange fnTiesNoneWrong)

/-- 'laws.FnExactTiesValid': WHATEVER THE INPUT: true; the input reads as it did. -/
def fnExactTiesValidSpec : ChangeSpec := { name := "fnExactTiesValid", fn := fun _ => fun
  | [d] => { results := [.lit (.bool true)], args := [d] }
  | _ => none }
def fnExactTiesValidRow : OpenClaim := { program := "ythhdpjkmjebjhab", sum := "63bb5453cd2ff042f5f8a210355c2511fae074a8707b9d0c210c4dbf148ec1f1", func := "loop.example/icecores/laws.FnExactTiesValid", spec := "fnExactTiesValid", plainKeys := false, apart := false }
def FnExactTiesValidSaid : Prop := fnExactTiesValidRow.holds Try.pinned (OpenSpec.ofChange fnExactTiesValidSpec)

/-- ITS FALSE NEIGHBOUR: 'it returns false'. Refute it at one input. -/
def fnExactTiesValidWrong : ChangeSpec := { name := "fnExactTiesValid", fn := fun _ => fun
  | [d] => { results := [.lit (.bool false)], args := [d] }
  | _ => none }
def FnExactTiesValidWrongFalsely : Prop := fnExactTiesValidRow.holds Try.pinned (OpenSpec.ofChange fnExactTiesValidWrong)

/- THE SECOND FORM. 'bulk': how many values and letters a reading holds, each counted each time it is reached (what is shared counts as often as it is met; a slice's spare places count too). A statement '..UptoSaid' is the law's where the arguments, and the package variables that the reading takes, are together of bulk at most 1048576: NARROWER than '..Said'. Prove '..Said' where nothing that the law and all that it calls make is longer than what came in: it says more and counts as full. Else prove '..UptoSaid'. A law counts once. -/
mutual
def uptoBulk {H : Type} : DataW H → Nat
  | .lit (.string bytes) => bytes.length + 1
  | .lit _ => 1
  | .nil => 1
  | .ptr d => uptoBulk d + 1
  | .slice elems spare => uptoBulkAll elems + uptoBulkAll spare + 1
  | .agg parts => uptoBulkAll parts + 1
  | .iface _ d => uptoBulk d + 1
  | .map entries => uptoBulkEntries entries + 1
  | .held _ => 1
def uptoBulkAll {H : Type} : List (DataW H) → Nat
  | [] => 0
  | d :: r => uptoBulk d + uptoBulkAll r
def uptoBulkEntries {H : Type} : List (Lit × DataW H) → Nat
  | [] => 0
  | x :: r => uptoBulkEntry x + uptoBulkEntries r
def uptoBulkEntry {H : Type} : Lit × DataW H → Nat
  | (.string bytes, d) => bytes.length + uptoBulk d + 1
  | (_, d) => uptoBulk d + 1
 end
def uptoSmall : (H : Type) → List (DataW H) → Bool := fun _ ds => decide (uptoBulkAll ds ≤ 1048576)
def OpenSpec.upto (s : _root_.Go.ChangeSpec) : _root_.Go.OpenSpec := { _root_.Go.OpenSpec.ofChange s with cond := some uptoSmall }

/-- 'laws.FnTiesThroughThree', WHERE WHAT IT READS IS OF BULK AT MOST 1048576: true; the input reads as it did. -/
def fnTiesThroughThreeUptoRow : OpenClaim := { program := "ythhdpjkmjebjhab", sum := "63bb5453cd2ff042f5f8a210355c2511fae074a8707b9d0c210c4dbf148ec1f1", func := "loop.example/icecores/laws.FnTiesThroughThree", spec := "fnTiesThroughThree", unfollowed := true, recurses := true, plainKeys := false, apart := false, narrowed := true }
def FnTiesThroughThreeUptoSaid : Prop := fnTiesThroughThreeUptoRow.holds Try.pinned (OpenSpec.upto fnTiesThroughThreeSpec)

/-- 'laws.FnTiesCurve', WHERE WHAT IT READS IS OF BULK AT MOST 1048576: true; the input reads as it did. -/
def fnTiesCurveUptoRow : OpenClaim := { program := "ythhdpjkmjebjhab", sum := "63bb5453cd2ff042f5f8a210355c2511fae074a8707b9d0c210c4dbf148ec1f1", func := "loop.example/icecores/laws.FnTiesCurve", spec := "fnTiesCurve", unfollowed := true, recurses := true, plainKeys := false, apart := false, narrowed := true }
def FnTiesCurveUptoSaid : Prop := fnTiesCurveUptoRow.holds Try.pinned (OpenSpec.upto fnTiesCurveSpec)

/-- 'laws.FnTiesCurveAt', WHERE WHAT IT READS IS OF BULK AT MOST 1048576: true; the input reads as it did. -/
def fnTiesCurveAtUptoRow : OpenClaim := { program := "ythhdpjkmjebjhab", sum := "63bb5453cd2ff042f5f8a210355c2511fae074a8707b9d0c210c4dbf148ec1f1", func := "loop.example/icecores/laws.FnTiesCurveAt", spec := "fnTiesCurveAt", unfollowed := true, recurses := true, plainKeys := false, apart := false, narrowed := true }
def FnTiesCurveAtUptoSaid : Prop := fnTiesCurveAtUptoRow.holds Try.pinned (OpenSpec.upto fnTiesCurveAtSpec)

/-- 'laws.FnTiesOfLess', WHERE WHAT IT READS IS OF BULK AT MOST 1048576: true; the input reads as it did. -/
def fnTiesOfLessUptoRow : OpenClaim := { program := "ythhdpjkmjebjhab", sum := "63bb5453cd2ff042f5f8a210355c2511fae074a8707b9d0c210c4dbf148ec1f1", func := "loop.example/icecores/laws.FnTiesOfLess", spec := "fnTiesOfLess", unfollowed := true, recurses := true, plainKeys := false, apart := false, narrowed := true }
def FnTiesOfLessUptoSaid : Prop := fnTiesOfLessUptoRow.holds Try.pinned (OpenSpec.upto fnTiesOfLessSpec)

/-- 'laws.FnTiesJoinParts', WHERE WHAT IT READS IS OF BULK AT MOST 1048576: true; the input reads as it did. -/
def fnTiesJoinPartsUptoRow : OpenClaim := { program := "ythhdpjkmjebjhab", sum := "63bb5453cd2ff042f5f8a210355c2511fae074a8707b9d0c210c4dbf148ec1f1", func := "loop.example/icecores/laws.FnTiesJoinParts", spec := "fnTiesJoinParts", unfollowed := true, recurses := true, plainKeys := false, apart := false, narrowed := true }
def FnTiesJoinPartsUptoSaid : Prop := fnTiesJoinPartsUptoRow.holds Try.pinned (OpenSpec.upto fnTiesJoinPartsSpec)

/-- 'laws.FnTiesThroughLess', WHERE WHAT IT READS IS OF BULK AT MOST 1048576: true; the input reads as it did. -/
def fnTiesThroughLessUptoRow : OpenClaim := { program := "ythhdpjkmjebjhab", sum := "63bb5453cd2ff042f5f8a210355c2511fae074a8707b9d0c210c4dbf148ec1f1", func := "loop.example/icecores/laws.FnTiesThroughLess", spec := "fnTiesThroughLess", unfollowed := true, recurses := true, plainKeys := false, apart := false, narrowed := true }
def FnTiesThroughLessUptoSaid : Prop := fnTiesThroughLessUptoRow.holds Try.pinned (OpenSpec.upto fnTiesThroughLessSpec)

/-- 'laws.FnTiesCurveThrough', WHERE WHAT IT READS IS OF BULK AT MOST 1048576: true; the input reads as it did. -/
def fnTiesCurveThroughUptoRow : OpenClaim := { program := "ythhdpjkmjebjhab", sum := "63bb5453cd2ff042f5f8a210355c2511fae074a8707b9d0c210c4dbf148ec1f1", func := "loop.example/icecores/laws.FnTiesCurveThrough", spec := "fnTiesCurveThrough", unfollowed := true, recurses := true, plainKeys := false, apart := false, narrowed := true }
def FnTiesCurveThroughUptoSaid : Prop := fnTiesCurveThroughUptoRow.holds Try.pinned (OpenSpec.upto fnTiesCurveThroughSpec)

/-- 'laws.FnTiesNone', WHERE WHAT IT READS IS OF BULK AT MOST 1048576: true; the input reads as it did. -/
def fnTiesNoneUptoRow : OpenClaim := { program := "ythhdpjkmjebjhab", sum := "63bb5453cd2ff042f5f8a210355c2511fae074a8707b9d0c210c4dbf148ec1f1", func := "loop.example/icecores/laws.FnTiesNone", spec := "fnTiesNone", unfollowed := true, recurses := true, plainKeys := false, apart := false, narrowed := true }
def FnTiesNoneUptoSaid : Prop := fnTiesNoneUptoRow.holds Try.pinned (OpenSpec.upto fnTiesNoneSpec)

/-- 'laws.FnExactTiesValid', WHERE WHAT IT READS IS OF BULK AT MOST 1048576: true; the input reads as it did. -/
def fnExactTiesValidUptoRow : OpenClaim := { program := "ythhdpjkmjebjhab", sum := "63bb5453cd2ff042f5f8a210355c2511fae074a8707b9d0c210c4dbf148ec1f1", func := "loop.example/icecores/laws.FnExactTiesValid", spec := "fnExactTiesValid", plainKeys := false, apart := false, narrowed := true }
def FnExactTiesValidUptoSaid : Prop := fnExactTiesValidUptoRow.holds Try.pinned (OpenSpec.upto fnExactTiesValidSpec)

end Rows
end Go.Proofs.Ythhdpjkmjebjhab
