/-
  No cell of these rows narrows 'for every input' (looked for: loops, veiled, ifaces, maps, wideKeys, modest, calm, conditions, laid).
  DERIVED. THE GIVEN ROWS OF THIS SEAT. 7 by the template 'for every input the law returns true; each argument reads behind the call as it read before'; 0 by the template 'total and deterministic' (their statements: YtcemgdekcfdfhabTotals.lean).
  GIVEN WITH THE SEED: the statements are not yours to turn. If you find one false, say at which input.
  Laid BY PROGRAM, IN A SANDBOX (cutbox-rows.mjs): the forced cells as the released guide's own fill.sh prints them over the translation 1989f9daee234e90… (all of the seat's roots in one cut). By AI agents, Wed Nov 11 2026. No macro, syntax, notation, axiom, sorry.
-/
import Derived.Test.YtcemgdekcfdfhabChecked
import GoSem.Claim
import GoSem.ClaimJoined
import GoSem.ClaimMapViews
import Derived.JoinedTies
import Derived.KernelRfl
namespace Go.Proofs.Ytcemgdekcfdfhab
/- THE CELL 'sum', in the pinned program and in every row, IS THE sha256 OF THE DUMP (.gsa) THAT YtcemgdekcfdfhabProg.lean LOADS. Nothing in Lean hashes anything: it is a label: what it is worth is what the hold of that sum in a sandbox is worth. -/
noncomputable def Try.pinned : Pinned := { name := "ytcemgdekcfdfhab", sum := "1989f9daee234e90935904c2983d3825f2dcd6735c78b6e217271cd0c1ede671", checked := Try.checked }
namespace Rows
def none {H : Type} : Left H := { results := [], args := [] }

/-- 'laws.FnBetweenRises': WHATEVER THE INPUT: true; the input reads as it did. -/
def fnBetweenRisesSpec : ChangeSpec := { name := "fnBetweenRises", fn := fun _ => fun
  | [d] => { results := [.lit (.bool true)], args := [d] }
  | _ => none }
def fnBetweenRisesRow : OpenClaim := { program := "ytcemgdekcfdfhab", sum := "1989f9daee234e90935904c2983d3825f2dcd6735c78b6e217271cd0c1ede671", func := "loop.example/icecores/laws.FnBetweenRises", spec := "fnBetweenRises", apart := false }
def FnBetweenRisesSaid : Prop := fnBetweenRisesRow.holds Try.pinned (OpenSpec.ofChange fnBetweenRisesSpec)

/-- ITS FALSE NEIGHBOUR: 'it returns false'. Refute it at one input. -/
def fnBetweenRisesWrong : ChangeSpec := { name := "fnBetweenRises", fn := fun _ => fun
  | [d] => { results := [.lit (.bool false)], args := [d] }
  | _ => none }
def FnBetweenRisesWrongFalsely : Prop := fnBetweenRisesRow.holds Try.pinned (OpenSpec.ofChange fnBetweenRisesWrong)

/-- 'laws.FnBetweenAll': WHATEVER THE INPUT: true; the input reads as it did. -/
def fnBetweenAllSpec : ChangeSpec := { name := "fnBetweenAll", fn := fun _ => fun
  | [d] => { results := [.lit (.bool true)], args := [d] }
  | _ => none }
def fnBetweenAllRow : OpenClaim := { program := "ytcemgdekcfdfhab", sum := "1989f9daee234e90935904c2983d3825f2dcd6735c78b6e217271cd0c1ede671", func := "loop.example/icecores/laws.FnBetweenAll", spec := "fnBetweenAll", inPlace := ["internal/abi.NoEscape", "internal/bytealg.MakeNoZero"], apart := false }
def FnBetweenAllSaid : Prop := fnBetweenAllRow.holds Try.pinned (OpenSpec.ofChange fnBetweenAllSpec)

/-- ITS FALSE NEIGHBOUR: 'it returns false'. Refute it at one input. -/
def fnBetweenAllWrong : ChangeSpec := { name := "fnBetweenAll", fn := fun _ => fun
  | [d] => { results := [.lit (.bool false)], args := [d] }
  | _ => none }
def FnBetweenAllWrongFalsely : Prop := fnBetweenAllRow.holds Try.pinned (OpenSpec.ofChange fnBetweenAllWrong)

/-- 'laws.FnOrderCountMore': WHATEVER THE INPUT: true; the input reads as it did. -/
def fnOrderCountMoreSpec : ChangeSpec := { name := "fnOrderCountMore", fn := fun _ => fun
  | [d1, d2] => { results := [.lit (.bool true)], args := [d1, d2] }
  | _ => none }
def fnOrderCountMoreRow : OpenClaim := { program := "ytcemgdekcfdfhab", sum := "1989f9daee234e90935904c2983d3825f2dcd6735c78b6e217271cd0c1ede671", func := "loop.example/icecores/laws.FnOrderCountMore", spec := "fnOrderCountMore", apart := false }
def FnOrderCountMoreSaid : Prop := fnOrderCountMoreRow.holds Try.pinned (OpenSpec.ofChange fnOrderCountMoreSpec)

/-- ITS FALSE NEIGHBOUR: 'it returns false'. Refute it at one input. -/
def fnOrderCountMoreWrong : ChangeSpec := { name := "fnOrderCountMore", fn := fun _ => fun
  | [d1, d2] => { results := [.lit (.bool false)], args := [d1, d2] }
  | _ => none }
def FnOrderCountMoreWrongFalsely : Prop := fnOrderCountMoreRow.holds Try.pinned (OpenSpec.ofChange fnOrderCountMoreWrong)

/-- 'laws.FnBetweenParts': WHATEVER THE INPUT: true; the input reads as it did. -/
def fnBetweenPartsSpec : ChangeSpec := { name := "fnBetweenParts", fn := fun _ => fun
  | [d] => { results := [.lit (.bool true)], args := [d] }
  | _ => none }
def fnBetweenPartsRow : OpenClaim := { program := "ytcemgdekcfdfhab", sum := "1989f9daee234e90935904c2983d3825f2dcd6735c78b6e217271cd0c1ede671", func := "loop.example/icecores/laws.FnBetweenParts", spec := "fnBetweenParts", apart := false }
def FnBetweenPartsSaid : Prop := fnBetweenPartsRow.holds Try.pinned (OpenSpec.ofChange fnBetweenPartsSpec)

/-- ITS FALSE NEIGHBOUR: 'it returns false'. Refute it at one input. -/
def fnBetweenPartsWrong : ChangeSpec := { name := "fnBetweenParts", fn := fun _ => fun
  | [d] => { results := [.lit (.bool false)], args := [d] }
  | _ => none }
def FnBetweenPartsWrongFalsely : Prop := fnBetweenPartsRow.holds Try.pinned (OpenSpec.ofChange fnBetweenPartsWrong)

/-- 'laws.FnBetweenEnds': WHATEVER THE INPUT: true; the input reads as it did. -/
def fnBetweenEndsSpec : ChangeSpec := { name := "fnBetweenEnds", fn := fun _ => fun
  | [d] => { results := [.lit (.bool true)], args := [d] }
  | _ => none }
def fnBetweenEndsRow : OpenClaim := { program := "ytcemgdekcfdfhab", sum := "1989f9daee234e90935904c2983d3825f2dcd6735c78b6e217271cd0c1ede671", func := "loop.example/icecores/laws.FnBetweenEnds", spec := "fnBetweenEnds", apart := false }
def FnBetweenEndsSaid : Prop := fnBetweenEndsRow.holds Try.pinned (OpenSpec.ofChange fnBetweenEndsSpec)

/-- ITS FALSE NEIGHBOUR: 'it returns false'. Refute it at one input. -/
def fnBetweenEndsWrong : ChangeSpec := { name := "fnBetweenEnds", fn := fun _ => fun
  | [d] => { results := [.lit (.bool false)], args := [d] }
  | _ => none }
def FnBetweenEndsWrongFalsely : Prop := fnBetweenEndsRow.holds Try.pinned (OpenSpec.ofChange fnBetweenEndsWrong)

/-- 'laws.FnExactOrderCount': WHATEVER THE INPUT: true; the input reads as it did. -/
def fnExactOrderCountSpec : ChangeSpec := { name := "fnExactOrderCount", fn := fun _ => fun
  | [d1, d2] => { results := [.lit (.bool true)], args := [d1, d2] }
  | _ => none }
def fnExactOrderCountRow : OpenClaim := { program := "ytcemgdekcfdfhab", sum := "1989f9daee234e90935904c2983d3825f2dcd6735c78b6e217271cd0c1ede671", func := "loop.example/icecores/laws.FnExactOrderCount", spec := "fnExactOrderCount", apart := false }
def FnExactOrderCountSaid : Prop := fnExactOrderCountRow.holds Try.pinned (OpenSpec.ofChange fnExactOrderCountSpec)

/-- ITS FALSE NEIGHBOUR: 'it returns false'. Refute it at one input. -/
def fnExactOrderCountWrong : ChangeSpec := { name := "fnExactOrderCount", fn := fun _ => fun
  | [d1, d2] => { results := [.lit (.bool false)], args := [d1, d2] }
  | _ => none }
def FnExactOrderCountWrongFalsely : Prop := fnExactOrderCountRow.holds Try.pinned (OpenSpec.ofChange fnExactOrderCountWrong)

/-- 'laws.FnExactOrderNth': WHATEVER THE INPUT: true; the input reads as it did. -/
def fnExactOrderNthSpec : ChangeSpec := { name := "fnExactOrderNth", fn := fun _ => fun
  | [d1, d2, d3] => { results := [.lit (.bool true)], args := [d1, d2, d3] }
  | _ => none }
def fnExactOrderNthRow : OpenClaim := { program := "ytcemgdekcfdfhab", sum := "1989f9daee234e90935904c2983d3825f2dcd6735c78b6e217271cd0c1ede671", func := "loop.example/icecores/laws.FnExactOrderNth", spec := "fnExactOrderNth", inPlace := ["internal/abi.NoEscape", "internal/bytealg.MakeNoZero"], apart := false }
def FnExactOrderNthSaid : Prop := fnExactOrderNthRow.holds Try.pinned (OpenSpec.ofChange fnExactOrderNthSpec)

/-- ITS FALSE NEIGHBOUR: 'it returns false'. Refute it at one input. -/
def fnExactOrderNthWrong : ChangeSpec := { name := "fnExactOrderNth", fn := fun _ => fun
  | [d1, d2, d3] => { results := [.lit (.bool false)], args := [d1, d2, d3] }
  | _ => none }
def FnExactOrderNthWrongFalsely : Prop := fnExactOrderNthRow.holds Try.pinned (OpenSpec.ofChange fnExactOrderNthWrong)

/- THE SECOND FORM. 'bulk': how many values and letters a reading holds, each counted each time it is reached (what is shared counts as often as it is met; a slice's spare places count too). A statement '..UptoSaid' is the law's where the arguments, and the package variables that the reading takes, are together of bulk at most 1048576: NARROWER than '..Said'. Prove '..Said' where nothing that the law and all that it calls make is longer than what came in: it says more and counts as full. Else prove '..UptoSaid'. A law counts once. -/
mutual
def uptoBulk {H : Type} : DataW H → Nat
  | .lit (.string bytes) => bytes.length + 1
  | .lit _ => 1
  | .nil => 1
  | .ptr d => uptoBulk d + 1
  | .slice elems spare => uptoBulkAll elems + uptoBulkAll spare + 1
  | .agg parts => uptoBulkAll parts + 1
  | .iface _ d => uptoBulk d + 1
  | .map entries => uptoBulkEntries entries + 1
  | .held _ => 1
def uptoBulkAll {H : Type} : List (DataW H) → Nat
  | [] => 0
  | d :: r => uptoBulk d + uptoBulkAll r
def uptoBulkEntries {H : Type} : List (Lit × DataW H) → Nat
  | [] => 0
  | x :: r => uptoBulkEntry x + uptoBulkEntries r
def uptoBulkEntry {H : Type} : Lit × DataW H → Nat
  | (.string bytes, d) => bytes.length + uptoBulk d + 1
  | (_, d) => uptoBulk d + 1
 end
def uptoSmall : (H : Type) → List (DataW H) → Bool := fun _ ds => decide (uptoBulkAll ds ≤ 1048576)
def OpenSpec.upto (s : _root_.Go.ChangeSpec) : _root_.Go.OpenSpec := { _root_.Go.OpenSpec.ofChange s with cond := some uptoSmall }

/-- 'laws.FnBetweenRises', WHERE WHAT IT READS IS OF BULK AT MOST 1048576: true; the input reads as it did. -/
def fnBetweenRisesUptoRow : OpenClaim := { program := "ytcemgdekcfdfhab", sum := "1989f9daee234e90935904c2983d3825f2dcd6735c78b6e217271cd0c1ede671", func := "loop.example/icecores/laws.FnBetweenRises", spec := "fnBetweenRises", apart := false, narrowed := true }
def FnBetweenRisesUptoSaid : Prop := fnBetweenRisesUptoRow.holds Try.pinned (OpenSpec.upto fnBetweenRisesSpec)

/-- 'laws.FnBetweenAll', WHERE WHAT IT READS IS OF BULK AT MOST 1048576: true; the input reads as it did. -/
def fnBetweenAllUptoRow : OpenClaim := { program := "ytcemgdekcfdfhab", sum := "1989f9daee234e90935904c2983d3825f2dcd6735c78b6e217271cd0c1ede671", func := "loop.example/icecores/laws.FnBetweenAll", spec := "fnBetweenAll", inPlace := ["internal/abi.NoEscape", "internal/bytealg.MakeNoZero"], apart := false, narrowed := true }
def FnBetweenAllUptoSaid : Prop := fnBetweenAllUptoRow.holds Try.pinned (OpenSpec.upto fnBetweenAllSpec)

/-- 'laws.FnOrderCountMore', WHERE WHAT IT READS IS OF BULK AT MOST 1048576: true; the input reads as it did. -/
def fnOrderCountMoreUptoRow : OpenClaim := { program := "ytcemgdekcfdfhab", sum := "1989f9daee234e90935904c2983d3825f2dcd6735c78b6e217271cd0c1ede671", func := "loop.example/icecores/laws.FnOrderCountMore", spec := "fnOrderCountMore", apart := false, narrowed := true }
def FnOrderCountMoreUptoSaid : Prop := fnOrderCountMoreUptoRow.holds Try.pinned (OpenSpec.upto fnOrderCountMoreSpec)

/-- 'laws.FnBetweenParts', WHERE WHAT IT READS IS OF BULK AT MOST 1048576: true; the input reads as it did. -/
def fnBetweenPartsUptoRow : OpenClaim := { program := "ytcemgdekcfdfhab", sum := "1989f9daee234e90935904c2983d3825f2dcd6735c78b6e217271cd0c1ede671", func := "loop.example/icecores/laws.FnBetweenParts", spec := "fnBetweenParts", apart := false, narrowed := true }
def FnBetweenPartsUptoSaid : Prop := fnBetweenPartsUptoRow.holds Try.pinned (OpenSpec.upto fnBetweenPartsSpec)

/-- 'laws.FnBetweenEnds', WHERE WHAT IT READS IS OF BULK AT MOST 1048576: true; the input reads as it did. -/
def fnBetweenEndsUptoRow : OpenClaim := { program := "ytcemgdekcfdfhab", sum := "1989f9daee234e90935904c2983d3825f2dcd6735c78b6e217271cd0c1ede671", func := "loop.example/icecores/laws.FnBetweenEnds", spec := "fnBetweenEnds", apart := false, narrowed := true }
def FnBetweenEndsUptoSaid : Prop := fnBetweenEndsUptoRow.holds Try.pinned (OpenSpec.upto fnBetweenEndsSpec)

/-- 'laws.FnExactOrderCount', WHERE WHAT IT READS IS OF BULK AT MOST 1048576: true; the input reads as it did. -/
def fnExactOrderCountUptoRow : OpenClaim := { program := "ytcemgdekcfdfhab", sum := "1989f9daee234e90935904c2983d3825f2dcd6735c78b6e217271cd0c1ede671", func := "loop.example/icecores/laws.FnExactOrderCount", spec := "fnExactOrderCount", apart := false, narrowed := true }
def FnExactOrderCountUptoSaid : Prop := fnExactOrderCountUptoRow.holds Try.pinned (OpenSpec.upto fnExactOrderCountSpec)

/-- 'laws.FnExactOrderNth', WHERE WHAT IT READS IS OF BULK AT MOST 1048576: true; the input reads as it did. -/
def fnExactOrderNthUptoRow : OpenClaim := { program := "ytcemgdekcfdfhab", sum := "1989f9daee234e90935904c2983d3825f2dcd6735c78b6e217271cd0c1ede671", func := "loop.example/icecores/laws.FnExactOrderNth", spec := "fnExactOrderNth", inPlace := ["internal/abi.NoEscape", "internal/bytealg.MakeNoZero"], apart := false, narrowed := true }
def FnExactOrderNthUptoSaid : Prop := fnExactOrderNthUptoRow.holds Try.pinned (OpenSpec.upto fnExactOrderNthSpec)

end Rows
end Go.Proofs.Ytcemgdekcfdfhab
