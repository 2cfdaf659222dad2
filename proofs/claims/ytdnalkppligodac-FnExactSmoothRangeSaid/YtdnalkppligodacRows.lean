/-
  No cell of these rows narrows 'for every input' (looked for: loops, veiled, ifaces, maps, wideKeys, modest, calm, conditions, laid).
  DERIVED. THE GIVEN ROWS OF THIS SEAT. 4 by the template 'for every input the law returns true; each argument reads behind the call as it read before'; 0 by the template 'total and deterministic' (their statements: YtdnalkppligodacTotals.lean).
  GIVEN WITH THE SEED: the statements are not yours to turn. If you find one false, say at which input.
  Laid BY PROGRAM, IN A SANDBOX (cutbox-rows.mjs): the forced cells as the released guide's own fill.sh prints them over the translation 0a4d8cf4a99c0efb… (all of the seat's roots in one cut). By AI agents, Wed Nov 11 2026. No macro, syntax, notation, axiom, sorry.
-/
import Derived.Test.YtdnalkppligodacChecked
import GoSem.Claim
import GoSem.ClaimJoined
import GoSem.ClaimMapViews
import Derived.JoinedTies
import Derived.KernelRfl
namespace Go.Proofs.Ytdnalkppligodac
/- THE CELL 'sum', in the pinned program and in every row, IS THE sha256 OF THE DUMP (.gsa) THAT YtdnalkppligodacProg.lean LOADS. Nothing in Lean hashes anything: it is a label: what it is worth is what the hold of that sum in a sandbox is worth. -/
noncomputable def Try.pinned : Pinned := { name := "ytdnalkppligodac", sum := "0a4d8cf4a99c0efb68a33dc55930c9a1397fd37140913865c4462bd28436e514", checked := Try.checked }
namespace Rows
def none {H : Type} : Left H := { results := [], args := [] }

/-- 'laws.FnExactSmoothMany': WHATEVER THE INPUT: true; the input reads as it did. -/
def fnExactSmoothManySpec : ChangeSpec := { name := "fnExactSmoothMany", fn := fun _ => fun
  | [d1, d2] => { results := [.lit (.bool true)], args := [d1, d2] }
  | _ => none }
def fnExactSmoothManyRow : OpenClaim := { program := "ytdnalkppligodac", sum := "0a4d8cf4a99c0efb68a33dc55930c9a1397fd37140913865c4462bd28436e514", func := "loop.example/icecores/laws.FnExactSmoothMany", spec := "fnExactSmoothMany", apart := false }
def FnExactSmoothManySaid : Prop := fnExactSmoothManyRow.holds Try.pinned (OpenSpec.ofChange fnExactSmoothManySpec)

/-- ITS FALSE NEIGHBOUR: 'it returns false'. Refute it at one input. -/
def fnExactSmoothManyWrong : ChangeSpec := { name := "fnExactSmoothMany", fn := fun _ => fun
  | [d1, d2] => { results := [.lit (.bool false)], args := [d1, d2] }
  | _ => none }
def FnExactSmoothManyWrongFalsely : Prop := fnExactSmoothManyRow.holds Try.pinned (OpenSpec.ofChange fnExactSmoothManyWrong)

/-- 'laws.FnExactSmoothSum': WHATEVER THE INPUT: true; the input reads as it did. -/
def fnExactSmoothSumSpec : ChangeSpec := { name := "fnExactSmoothSum", fn := fun _ => fun
  | [d] => { results := [.lit (.bool true)], args := [d] }
  | _ => none }
def fnExactSmoothSumRow : OpenClaim := { program := "ytdnalkppligodac", sum := "0a4d8cf4a99c0efb68a33dc55930c9a1397fd37140913865c4462bd28436e514", func := "loop.example/icecores/laws.FnExactSmoothSum", spec := "fnExactSmoothSum", apart := false }
def FnExactSmoothSumSaid : Prop := fnExactSmoothSumRow.holds Try.pinned (OpenSpec.ofChange fnExactSmoothSumSpec)

/-- ITS FALSE NEIGHBOUR: 'it returns false'. Refute it at one input. -/
def fnExactSmoothSumWrong : ChangeSpec := { name := "fnExactSmoothSum", fn := fun _ => fun
  | [d] => { results := [.lit (.bool false)], args := [d] }
  | _ => none }
def FnExactSmoothSumWrongFalsely : Prop := fnExactSmoothSumRow.holds Try.pinned (OpenSpec.ofChange fnExactSmoothSumWrong)

/-- 'laws.FnExactSmoothRough': WHATEVER THE INPUT: true; the input reads as it did. -/
def fnExactSmoothRoughSpec : ChangeSpec := { name := "fnExactSmoothRough", fn := fun _ => fun
  | [d] => { results := [.lit (.bool true)], args := [d] }
  | _ => none }
def fnExactSmoothRoughRow : OpenClaim := { program := "ytdnalkppligodac", sum := "0a4d8cf4a99c0efb68a33dc55930c9a1397fd37140913865c4462bd28436e514", func := "loop.example/icecores/laws.FnExactSmoothRough", spec := "fnExactSmoothRough", apart := false }
def FnExactSmoothRoughSaid : Prop := fnExactSmoothRoughRow.holds Try.pinned (OpenSpec.ofChange fnExactSmoothRoughSpec)

/-- ITS FALSE NEIGHBOUR: 'it returns false'. Refute it at one input. -/
def fnExactSmoothRoughWrong : ChangeSpec := { name := "fnExactSmoothRough", fn := fun _ => fun
  | [d] => { results := [.lit (.bool false)], args := [d] }
  | _ => none }
def FnExactSmoothRoughWrongFalsely : Prop := fnExactSmoothRoughRow.holds Try.pinned (OpenSpec.ofChange fnExactSmoothRoughWrong)

/-- 'laws.FnExactSmoothRange': WHATEVER THE INPUT: true; the input reads as it did. -/
def fnExactSmoothRangeSpec : ChangeSpec := { name := "fnExactSmoothRange", fn := fun _ => fun
  | [d] => { results := [.lit (.bool true)], args := [d] }
  | _ => none }
def fnExactSmoothRangeRow : OpenClaim := { program := "ytdnalkppligodac", sum := "0a4d8cf4a99c0efb68a33dc55930c9a1397fd37140913865c4462bd28436e514", func := "loop.example/icecores/laws.FnExactSmoothRange", spec := "fnExactSmoothRange", apart := false }
def FnExactSmoothRangeSaid : Prop := fnExactSmoothRangeRow.holds Try.pinned (OpenSpec.ofChange fnExactSmoothRangeSpec)

/-- ITS FALSE NEIGHBOUR: 'it returns false'. Refute it at one input. -/
def fnExactSmoothRangeWrong : ChangeSpec := { name := "fnExactSmoothRange", fn := fun _ => fun
  | [d] => { results := [.lit (.bool false)], args := [d] }
  | _ => none }
def FnExactSmoothRangeWrongFalsely : Prop := fnExactSmoothRangeRow.holds Try.pinned (OpenSpec.ofChange fnExactSmoothRangeWrong)

/- THE SECOND FORM. 'bulk': how many values and letters a reading holds, each counted each time it is reached (what is shared counts as often as it is met; a slice's spare places count too). A statement '..UptoSaid' is the law's where the arguments, and the package variables that the reading takes, are together of bulk at most 1048576: NARROWER than '..Said'. Prove '..Said' where nothing that the law and all that it calls make is longer than what came in: it says more and counts as full. Else prove '..UptoSaid'. A law counts once. -/
mutual
def uptoBulk {H : Type} : DataW H → Nat
  | .lit (.string bytes) => bytes.length + 1
  | .lit _ => 1
  | .nil => 1
  | .ptr d => uptoBulk d + 1
  | .slice elems spare => uptoBulkAll elems + uptoBulkAll spare + 1
  | .agg parts => uptoBulkAll parts + 1
  | .iface _ d => uptoBulk d + 1
  | .map entries => uptoBulkEntries entries + 1
  | .held _ => 1
def uptoBulkAll {H : Type} : List (DataW H) → Nat
  | [] => 0
  | d :: r => uptoBulk d + uptoBulkAll r
def uptoBulkEntries {H : Type} : List (Lit × DataW H) → Nat
  | [] => 0
  | x :: r => uptoBulkEntry x + uptoBulkEntries r
def uptoBulkEntry {H : Type} : Lit × DataW H → Nat
  | (.string bytes, d) => bytes.length + uptoBulk d + 1
  | (_, d) => uptoBulk d + 1
 end
def uptoSmall : (H : Type) → List (DataW H) → Bool := fun _ ds => decide (uptoBulkAll ds ≤ 1048576)
def OpenSpec.upto (s : _root_.Go.ChangeSpec) : _root_.Go.OpenSpec := { _root_.Go.OpenSpec.ofChange s with cond := some uptoSmall }

/-- 'laws.FnExactSmoothMany', WHERE WHAT IT READS IS OF BULK AT MOST 1048576: true; the input reads as it did. -/
def fnExactSmoothManyUptoRow : OpenClaim := { program := "ytdnalkppligodac", sum := "0a4d8cf4a99c0efb68a33dc55930c9a1397fd37140913865c4462bd28436e514", func := "loop.example/icecores/laws.FnExactSmoothMany", spec := "fnExactSmoothMany", apart := false, narrowed := true }
def FnExactSmoothManyUptoSaid : Prop := fnExactSmoothManyUptoRow.holds Try.pinned (OpenSpec.upto fnExactSmoothManySpec)

/-- 'laws.FnExactSmoothSum', WHERE WHAT IT READS IS OF BULK AT MOST 1048576: true; the input reads as it did. -/
def fnExactSmoothSumUptoRow : OpenClaim := { program := "ytdnalkppligodac", sum := "0a4d8cf4a99c0efb68a33dc55930c9a1397fd37140913865c4462bd28436e514", func := "loop.example/icecores/laws.FnExactSmoothSum", spec := "fnExactSmoothSum", apart := false, narrowed := true }
def FnExactSmoothSumUptoSaid : Prop := fnExactSmoothSumUptoRow.holds Try.pinned (OpenSpec.upto fnExactSmoothSumSpec)

/-- 'laws.FnExactSmoothRough', WHERE WHAT IT READS IS OF BULK AT MOST 1048576: true; the input reads as it did. -/
def fnExactSmoothRoughUptoRow : OpenClaim := { program := "ytdnalkppligodac", sum := "0a4d8cf4a99c0efb68a33dc55930c9a1397fd37140913865c4462bd28436e514", func := "loop.example/icecores/laws.FnExactSmoothRough", spec := "fnExactSmoothRough", apart := false, narrowed := true }
def FnExactSmoothRoughUptoSaid : Prop := fnExactSmoothRoughUptoRow.holds Try.pinned (OpenSpec.upto fnExactSmoothRoughSpec)

/-- 'laws.FnExactSmoothRange', WHERE WHAT IT READS IS OF BULK AT MOST 1048576: true; the input reads as it did. -/
def fnExactSmoothRangeUptoRow : OpenClaim := { program := "ytdnalkppligodac", sum := "0a4d8cf4a99c0efb68a33dc55930c9a1397fd37140913865c4462bd28436e514", func := "loop.example/icecores/laws.FnExactSmoothRange", spec := "fnExactSmoothRange", apart := false, narrowed := true }
def FnExactSmoothRangeUptoSaid : Prop := fnExactSmoothRangeUptoRow.holds Try.pinned (OpenSpec.upto fnExactSmoothRangeSpec)

end Rows
end Go.Proofs.Ytdnalkppligodac
