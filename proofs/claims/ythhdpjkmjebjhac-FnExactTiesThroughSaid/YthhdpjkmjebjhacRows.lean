/-
  No cell of these rows narrows 'for every input' (looked for: loops, veiled, ifaces, maps, wideKeys, modest, calm, conditions, laid).
  DERIVED. THE GIVEN ROWS OF THIS SEAT. 6 by the template 'for every input the law returns true; each argument reads behind the call as it read before'; 0 by the template 'total and deterministic' (their statements: YthhdpjkmjebjhacTotals.lean).
  GIVEN WITH THE SEED: the statements are not yours to turn. If you find one false, say at which input.
  Laid BY PROGRAM, IN A SANDBOX (cutbox-rows.mjs): the forced cells as the released guide's own fill.sh prints them over the translation 01c36c3926013f6b… (all of the seat's roots in one cut). By AI agents, Wed Nov 11 2026. No macro, syntax, notation, axiom, sorry.
-/
import Derived.Test.YthhdpjkmjebjhacChecked
import GoSem.Claim
import GoSem.ClaimJoined
import GoSem.ClaimMapViews
import Derived.JoinedTies
import Derived.KernelRfl
namespace Go.Proofs.Ythhdpjkmjebjhac
/- THE CELL 'sum', in the pinned program and in every row, IS THE sha256 OF THE DUMP (.gsa) THAT YthhdpjkmjebjhacProg.lean LOADS. Nothing in Lean hashes anything: it is a label: what it is worth is what the hold of that sum in a sandbox is worth. -/
noncomputable def Try.pinned : Pinned := { name := "ythhdpjkmjebjhac", sum := "01c36c3926013f6bec47a094a39f602c06caf82a78d64eca9f4a47daccc8beb3", checked := Try.checked }
namespace Rows
def none {H : Type} : Left H := { results := [], args := [] }

/-- 'laws.FnExactTiesOf': WHATEVER THE INPUT: true; the input reads as it did. -/
def fnExactTiesOfSpec : ChangeSpec := { name := "fnExactTiesOf", fn := fun _ => fun
  | [d1, d2, d3, d4] => { results := [.lit (.bool true)], args := [d1, d2, d3, d4] }
  | _ => none }
def fnExactTiesOfRow : OpenClaim := { program := "ythhdpjkmjebjhac", sum := "01c36c3926013f6bec47a094a39f602c06caf82a78d64eca9f4a47daccc8beb3", func := "loop.example/icecores/laws.FnExactTiesOf", spec := "fnExactTiesOf", unfollowed := true, recurses := true, plainKeys := false, apart := false }
def FnExactTiesOfSaid : Prop := fnExactTiesOfRow.holds Try.pinned (OpenSpec.ofChange fnExactTiesOfSpec)

/-- ITS FALSE NEIGHBOUR: 'it returns false'. Refute it at one input. -/
def fnExactTiesOfWrong : ChangeSpec := { name := "fnExactTiesOf", fn := fun _ => fun
  | [d1, d2, d3, d4] => { results := [.lit (.bool false)], args := [d1, d2, d3, d4] }
  | _ => none }
def FnExactTiesOfWrongFalsely : Prop := fnExactTiesOfRow.holds Try.pinned (OpenSpec.ofChange fnExactTiesOfWrong)

/-- 'laws.FnExactTiesFit': WHATEVER THE INPUT: true; the input reads as it did. -/
def fnExactTiesFitSpec : ChangeSpec := { name := "fnExactTiesFit", fn := fun _ => fun
  | [d1, d2] => { results := [.lit (.bool true)], args := [d1, d2] }
  | _ => none }
def fnExactTiesFitRow : OpenClaim := { program := "ythhdpjkmjebjhac", sum := "01c36c3926013f6bec47a094a39f602c06caf82a78d64eca9f4a47daccc8beb3", func := "loop.example/icecores/laws.FnExactTiesFit", spec := "fnExactTiesFit", unfollowed := true, recurses := true, plainKeys := false, apart := false }
def FnExactTiesFitSaid : Prop := fnExactTiesFitRow.holds Try.pinned (OpenSpec.ofChange fnExactTiesFitSpec)

/-- ITS FALSE NEIGHBOUR: 'it returns false'. Refute it at one input. -/
def fnExactTiesFitWrong : ChangeSpec := { name := "fnExactTiesFit", fn := fun _ => fun
  | [d1, d2] => { results := [.lit (.bool false)], args := [d1, d2] }
  | _ => none }
def FnExactTiesFitWrongFalsely : Prop := fnExactTiesFitRow.holds Try.pinned (OpenSpec.ofChange fnExactTiesFitWrong)

/-- 'laws.FnExactTiesJoin': WHATEVER THE INPUT: true; the input reads as it did. -/
def fnExactTiesJoinSpec : ChangeSpec := { name := "fnExactTiesJoin", fn := fun _ => fun
  | [d1, d2] => { results := [.lit (.bool true)], args := [d1, d2] }
  | _ => none }
def fnExactTiesJoinRow : OpenClaim := { program := "ythhdpjkmjebjhac", sum := "01c36c3926013f6bec47a094a39f602c06caf82a78d64eca9f4a47daccc8beb3", func := "loop.example/icecores/laws.FnExactTiesJoin", spec := "fnExactTiesJoin", unfollowed := true, recurses := true, plainKeys := false, apart := false }
def FnExactTiesJoinSaid : Prop := fnExactTiesJoinRow.holds Try.pinned (OpenSpec.ofChange fnExactTiesJoinSpec)

/-- ITS FALSE NEIGHBOUR: 'it returns false'. Refute it at one input. -/
def fnExactTiesJoinWrong : ChangeSpec := { name := "fnExactTiesJoin", fn := fun _ => fun
  | [d1, d2] => { results := [.lit (.bool false)], args := [d1, d2] }
  | _ => none }
def FnExactTiesJoinWrongFalsely : Prop := fnExactTiesJoinRow.holds Try.pinned (OpenSpec.ofChange fnExactTiesJoinWrong)

/-- 'laws.FnExactTiesTurn': WHATEVER THE INPUT: true; the input reads as it did. -/
def fnExactTiesTurnSpec : ChangeSpec := { name := "fnExactTiesTurn", fn := fun _ => fun
  | [d] => { results := [.lit (.bool true)], args := [d] }
  | _ => none }
def fnExactTiesTurnRow : OpenClaim := { program := "ythhdpjkmjebjhac", sum := "01c36c3926013f6bec47a094a39f602c06caf82a78d64eca9f4a47daccc8beb3", func := "loop.example/icecores/laws.FnExactTiesTurn", spec := "fnExactTiesTurn", unfollowed := true, recurses := true, plainKeys := false, apart := false }
def FnExactTiesTurnSaid : Prop := fnExactTiesTurnRow.holds Try.pinned (OpenSpec.ofChange fnExactTiesTurnSpec)

/-- ITS FALSE NEIGHBOUR: 'it returns false'. Refute it at one input. -/
def fnExactTiesTurnWrong : ChangeSpec := { name := "fnExactTiesTurn", fn := fun _ => fun
  | [d] => { results := [.lit (.bool false)], args := [d] }
  | _ => none }
def FnExactTiesTurnWrongFalsely : Prop := fnExactTiesTurnRow.holds Try.pinned (OpenSpec.ofChange fnExactTiesTurnWrong)

/-- 'laws.FnExactTiesThrough': WHATEVER THE INPUT: true; the input reads as it did. -/
def fnExactTiesThroughSpec : ChangeSpec := { name := "fnExactTiesThrough", fn := fun _ => fun
  | [d1, d2] => { results := [.lit (.bool true)], args := [d1, d2] }
  | _ => none }
def fnExactTiesThroughRow : OpenClaim := { program := "ythhdpjkmjebjhac", sum := "01c36c3926013f6bec47a094a39f602c06caf82a78d64eca9f4a47daccc8beb3", func := "loop.example/icecores/laws.FnExactTiesThrough", spec := "fnExactTiesThrough", unfollowed := true, recurses := true, plainKeys := false, apart := false }
def FnExactTiesThroughSaid : Prop := fnExactTiesThroughRow.holds Try.pinned (OpenSpec.ofChange fnExactTiesThroughSpec)

/-- ITS FALSE NEIGHBOUR: 'it returns false'. Refute it at one input. -/
def fnExactTiesThroughWrong : ChangeSpec := { name := "fnExactTiesThrough", fn := fun _ => fun
  | [d1, d2] => { results := [.lit (.bool false)], args := [d1, d2] }
  | _ => none }
def FnExactTiesThroughWrongFalsely : Prop := fnExactTiesThroughRow.holds Try.pinned (OpenSpec.ofChange fnExactTiesThroughWrong)

/-- 'laws.FnExactTiesCurve': WHATEVER THE INPUT: true; the input reads as it did. -/
def fnExactTiesCurveSpec : ChangeSpec := { name := "fnExactTiesCurve", fn := fun _ => fun
  | [d] => { results := [.lit (.bool true)], args := [d] }
  | _ => none }
def fnExactTiesCurveRow : OpenClaim := { program := "ythhdpjkmjebjhac", sum := "01c36c3926013f6bec47a094a39f602c06caf82a78d64eca9f4a47daccc8beb3", func := "loop.example/icecores/laws.FnExactTiesCurve", spec := "fnExactTiesCurve", plainKeys := false, apart := false }
def FnExactTiesCurveSaid : Prop := fnExactTiesCurveRow.holds Try.pinned (OpenSpec.ofChange fnExactTiesCurveSpec)

/-- ITS FALSE NEIGHBOUR: 'it returns false'. Refute it at one input. -/
def fnExactTiesCurveWrong : ChangeSpec := { name := "fnExactTiesCurve", fn := fun _ => fun
  | [d] => { results := [.lit (.bool false)], args := [d] }
  | _ => none }
def FnExactTiesCurveWrongFalsely : Prop := fnExactTiesCurveRow.holds Try.pinned (OpenSpec.ofChange fnExactTiesCurveWrong)

/- THE SECOND FORM. 'bulk': how many values and letters a reading holds, each counted each time it is reached (what is shared counts as often as it is met; a slice's spare places count too). A statement '..UptoSaid' is the law's where the arguments, and the package variables that the reading takes, are together of bulk at most 1048576: NARROWER than '..Said'. Prove '..Said' where nothing that the law and all that it calls make is longer than what came in: it says more and counts as full. Else prove '..UptoSaid'. A law counts once. -/
mutual
def uptoBulk {H : Type} : DataW H → Nat
  | .lit (.string bytes) => bytes.length + 1
  | .lit _ => 1
  | .nil => 1
  | .ptr d => uptoBulk d + 1
  | .slice elems spare => uptoBulkAll elems + uptoBulkAll spare + 1
  | .agg parts => uptoBulkAll parts + 1
  | .iface _ d => uptoBulk d + 1
  | .map entries => uptoBulkEntries entries + 1
  | .held _ => 1
def uptoBulkAll {H : Type} : List (DataW H) → Nat
  | [] => 0
  | d :: r => uptoBulk d + uptoBulkAll r
def uptoBulkEntries {H : Type} : List (Lit × DataW H) → Nat
  | [] => 0
  | x :: r => uptoBulkEntry x + uptoBulkEntries r
def uptoBulkEntry {H : Type} : Lit × DataW H → Nat
  | (.string bytes, d) => bytes.length + uptoBulk d + 1
  | (_, d) => uptoBulk d + 1
 end
def uptoSmall : (H : Type) → List (DataW H) → Bool := fun _ ds => decide (uptoBulkAll ds ≤ 1048576)
def OpenSpec.upto (s : _root_.Go.ChangeSpec) : _root_.Go.OpenSpec := { _root_.Go.OpenSpec.ofChange s with cond := some uptoSmall }

/-- 'laws.FnExactTiesOf', WHERE WHAT IT READS IS OF BULK AT MOST 1048576: true; the input reads as it did. -/
def fnExactTiesOfUptoRow : OpenClaim := { program := "ythhdpjkmjebjhac", sum := "01c36c3926013f6bec47a094a39f602c06caf82a78d64eca9f4a47daccc8beb3", func := "loop.example/icecores/laws.FnExactTiesOf", spec := "fnExactTiesOf", unfollowed := true, recurses := true, plainKeys := false, apart := false, narrowed := true }
def FnExactTiesOfUptoSaid : Prop := fnExactTiesOfUptoRow.holds Try.pinned (OpenSpec.upto fnExactTiesOfSpec)

/-- 'laws.FnExactTiesFit', WHERE WHAT IT READS IS OF BULK AT MOST 1048576: true; the input reads as it did. -/
def fnExactTiesFitUptoRow : OpenClaim := { program := "ythhdpjkmjebjhac", sum := "01c36c3926013f6bec47a094a39f602c06caf82a78d64eca9f4a47daccc8beb3", func := "loop.example/icecores/laws.FnExactTiesFit", spec := "fnExactTiesFit", unfollowed := true, recurses := true, plainKeys := false, apart := false, narrowed := true }
def FnExactTiesFitUptoSaid : Prop := fnExactTiesFitUptoRow.holds Try.pinned (OpenSpec.upto fnExactTiesFitSpec)

/-- 'laws.FnExactTiesJoin', WHERE WHAT IT READS IS OF BULK AT MOST 1048576: true; the input reads as it did. -/
def fnExactTiesJoinUptoRow : OpenClaim := { program := "ythhdpjkmjebjhac", sum := "01c36c3926013f6bec47a094a39f602c06caf82a78d64eca9f4a47daccc8beb3", func := "loop.example/icecores/laws.FnExactTiesJoin", spec := "fnExactTiesJoin", unfollowed := true, recurses := true, plainKeys := false, apart := false, narrowed := true }
def FnExactTiesJoinUptoSaid : Prop := fnExactTiesJoinUptoRow.holds Try.pinned (OpenSpec.upto fnExactTiesJoinSpec)

/-- 'laws.FnExactTiesTurn', WHERE WHAT IT READS IS OF BULK AT MOST 1048576: true; the input reads as it did. -/
def fnExactTiesTurnUptoRow : OpenClaim := { program := "ythhdpjkmjebjhac", sum := "01c36c3926013f6bec47a094a39f602c06caf82a78d64eca9f4a47daccc8beb3", func := "loop.example/icecores/laws.FnExactTiesTurn", spec := "fnExactTiesTurn", unfollowed := true, recurses := true, plainKeys := false, apart := false, narrowed := true }
def FnExactTiesTurnUptoSaid : Prop := fnExactTiesTurnUptoRow.holds Try.pinned (OpenSpec.upto fnExactTiesTurnSpec)

/-- 'laws.FnExactTiesThrough', WHERE WHAT IT READS IS OF BULK AT MOST 1048576: true; the input reads as it did. -/
def fnExactTiesThroughUptoRow : OpenClaim := { program := "ythhdpjkmjebjhac", sum := "01c36c3926013f6bec47a094a39f602c06caf82a78d64eca9f4a47daccc8beb3", func := "loop.example/icecores/laws.FnExactTiesThrough", spec := "fnExactTiesThrough", unfollowed := true, recurses := true, plainKeys := false, apart := false, narrowed := true }
def FnExactTiesThroughUptoSaid : Prop := fnExactTiesThroughUptoRow.holds Try.pinned (OpenSpec.upto fnExactTiesThroughSpec)

/-- 'laws.FnExactTiesCurve', WHERE WHAT IT READS IS OF BULK AT MOST 1048576: true; the input reads as it did. -/
def fnExactTiesCurveUptoRow : OpenClaim := { program := "ythhdpjkmjebjhac", sum := "01c36c3926013f6bec47a094a39f602c06caf82a78d64eca9f4a47daccc8beb3", func := "loop.example/icecores/laws.FnExactTiesCurve", spec := "fnExactTiesCurve", plainKeys := false, apart := false, narrowed := true }
def FnExactTiesCurveUptoSaid : Prop := fnExactTiesCurveUptoRow.holds Try.pinned (OpenSpec.upto fnExactTiesCurveSpec)

end Rows
end Go.Proofs.Ythhdpjkmjebjhac
