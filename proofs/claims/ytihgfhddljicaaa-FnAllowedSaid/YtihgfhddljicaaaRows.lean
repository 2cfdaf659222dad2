/-
  No cell of these rows narrows 'for every input' (looked for: loops, veiled, ifaces, maps, wideKeys, modest, calm, conditions, laid).
  DERIVED. THE GIVEN ROWS OF THIS SEAT. 9 by the template 'for every input the law returns true; each argument reads behind the call as it read before'; 0 by the template 'total and deterministic' (their statements: YtihgfhddljicaaaTotals.lean).
  GIVEN WITH THE SEED: the statements are not yours to turn. If you find one false, say at which input.
  Laid BY PROGRAM, IN A SANDBOX (cutbox-rows.mjs): the forced cells as the released guide's own fill.sh prints them over the translation 164a4bd350ce3bf5… (all of the seat's roots in one cut). By AI agents, Wed Nov 11 2026. No macro, syntax, notation, axiom, sorry.
-/
import Derived.Test.YtihgfhddljicaaaChecked
import GoSem.Claim
import GoSem.ClaimJoined
import GoSem.ClaimMapViews
import Derived.JoinedTies
import Derived.KernelRfl
namespace Go.Proofs.Ytihgfhddljicaaa
/- THE CELL 'sum', in the pinned program and in every row, IS THE sha256 OF THE DUMP (.gsa) THAT YtihgfhddljicaaaProg.lean LOADS. Nothing in Lean hashes anything: it is a label: what it is worth is what the hold of that sum in a sandbox is worth. -/
noncomputable def Try.pinned : Pinned := { name := "ytihgfhddljicaaa", sum := "164a4bd350ce3bf5737a514bca5dd4cb3097462f7fbb86efcc4e1c3fc6f4f939", checked := Try.checked }
namespace Rows
def none {H : Type} : Left H := { results := [], args := [] }

/-- 'laws.FnAllowed': WHATEVER THE INPUT: true; the input reads as it did. -/
def fnAllowedSpec : ChangeSpec := { name := "fnAllowed", fn := fun _ => fun
  | [d] => { results := [.lit (.bool true)], args := [d] }
  | _ => none }
def fnAllowedRow : OpenClaim := { program := "ytihgfhddljicaaa", sum := "164a4bd350ce3bf5737a514bca5dd4cb3097462f7fbb86efcc4e1c3fc6f4f939", func := "loop.example/icecores/laws.FnAllowed", spec := "fnAllowed", apart := false }
def FnAllowedSaid : Prop := fnAllowedRow.holds Try.pinned (OpenSpec.ofChange fnAllowedSpec)

/-- ITS FALSE NEIGHBOUR: 'it returns false'. Refute it at one input. -/
def fnAllowedWrong : ChangeSpec := { name := "fnAllowed", fn := fun _ => fun
  | [d] => { results := [.lit (.bool false)], args := [d] }
  | _ => none }
def FnAllowedWrongFalsely : Prop := fnAllowedRow.holds Try.pinned (OpenSpec.ofChange fnAllowedWrong)

/-- 'laws.FnAllowedYears': WHATEVER THE INPUT: true; the input reads as it did. -/
def fnAllowedYearsSpec : ChangeSpec := { name := "fnAllowedYears", fn := fun _ => fun
  | [d] => { results := [.lit (.bool true)], args := [d] }
  | _ => none }
def fnAllowedYearsRow : OpenClaim := { program := "ytihgfhddljicaaa", sum := "164a4bd350ce3bf5737a514bca5dd4cb3097462f7fbb86efcc4e1c3fc6f4f939", func := "loop.example/icecores/laws.FnAllowedYears", spec := "fnAllowedYears", unfollowed := true, recurses := true, apart := false }
def FnAllowedYearsSaid : Prop := fnAllowedYearsRow.holds Try.pinned (OpenSpec.ofChange fnAllowedYearsSpec)

/-- ITS FALSE NEIGHBOUR: 'it returns false'. Refute it at one input. -/
def fnAllowedYearsWrong : ChangeSpec := { name := "fnAllowedYears", fn := fun _ => fun
  | [d] => { results := [.lit (.bool false)], args := [d] }
  | _ => none }
def FnAllowedYearsWrongFalsely : Prop := fnAllowedYearsRow.holds Try.pinned (OpenSpec.ofChange fnAllowedYearsWrong)

/-- 'laws.FnCost': WHATEVER THE INPUT: true; the input reads as it did. -/
def fnCostSpec : ChangeSpec := { name := "fnCost", fn := fun _ => fun
  | [d] => { results := [.lit (.bool true)], args := [d] }
  | _ => none }
def fnCostRow : OpenClaim := { program := "ytihgfhddljicaaa", sum := "164a4bd350ce3bf5737a514bca5dd4cb3097462f7fbb86efcc4e1c3fc6f4f939", func := "loop.example/icecores/laws.FnCost", spec := "fnCost", apart := false }
def FnCostSaid : Prop := fnCostRow.holds Try.pinned (OpenSpec.ofChange fnCostSpec)

/-- ITS FALSE NEIGHBOUR: 'it returns false'. Refute it at one input. -/
def fnCostWrong : ChangeSpec := { name := "fnCost", fn := fun _ => fun
  | [d] => { results := [.lit (.bool false)], args := [d] }
  | _ => none }
def FnCostWrongFalsely : Prop := fnCostRow.holds Try.pinned (OpenSpec.ofChange fnCostWrong)

/-- 'laws.FnCostBest': WHATEVER THE INPUT: true; the input reads as it did. -/
def fnCostBestSpec : ChangeSpec := { name := "fnCostBest", fn := fun _ => fun
  | [d] => { results := [.lit (.bool true)], args := [d] }
  | _ => none }
def fnCostBestRow : OpenClaim := { program := "ytihgfhddljicaaa", sum := "164a4bd350ce3bf5737a514bca5dd4cb3097462f7fbb86efcc4e1c3fc6f4f939", func := "loop.example/icecores/laws.FnCostBest", spec := "fnCostBest", unfollowed := true, recurses := true, apart := false }
def FnCostBestSaid : Prop := fnCostBestRow.holds Try.pinned (OpenSpec.ofChange fnCostBestSpec)

/-- ITS FALSE NEIGHBOUR: 'it returns false'. Refute it at one input. -/
def fnCostBestWrong : ChangeSpec := { name := "fnCostBest", fn := fun _ => fun
  | [d] => { results := [.lit (.bool false)], args := [d] }
  | _ => none }
def FnCostBestWrongFalsely : Prop := fnCostBestRow.holds Try.pinned (OpenSpec.ofChange fnCostBestWrong)

/-- 'laws.FnManyCuts': WHATEVER THE INPUT: true; the input reads as it did. -/
def fnManyCutsSpec : ChangeSpec := { name := "fnManyCuts", fn := fun _ => fun
  | [d] => { results := [.lit (.bool true)], args := [d] }
  | _ => none }
def fnManyCutsRow : OpenClaim := { program := "ytihgfhddljicaaa", sum := "164a4bd350ce3bf5737a514bca5dd4cb3097462f7fbb86efcc4e1c3fc6f4f939", func := "loop.example/icecores/laws.FnManyCuts", spec := "fnManyCuts", unfollowed := true, recurses := true, apart := false }
def FnManyCutsSaid : Prop := fnManyCutsRow.holds Try.pinned (OpenSpec.ofChange fnManyCutsSpec)

/-- ITS FALSE NEIGHBOUR: 'it returns false'. Refute it at one input. -/
def fnManyCutsWrong : ChangeSpec := { name := "fnManyCuts", fn := fun _ => fun
  | [d] => { results := [.lit (.bool false)], args := [d] }
  | _ => none }
def FnManyCutsWrongFalsely : Prop := fnManyCutsRow.holds Try.pinned (OpenSpec.ofChange fnManyCutsWrong)

/-- 'laws.FnManyCutsFree': WHATEVER THE INPUT: true; the input reads as it did. -/
def fnManyCutsFreeSpec : ChangeSpec := { name := "fnManyCutsFree", fn := fun _ => fun
  | [d] => { results := [.lit (.bool true)], args := [d] }
  | _ => none }
def fnManyCutsFreeRow : OpenClaim := { program := "ytihgfhddljicaaa", sum := "164a4bd350ce3bf5737a514bca5dd4cb3097462f7fbb86efcc4e1c3fc6f4f939", func := "loop.example/icecores/laws.FnManyCutsFree", spec := "fnManyCutsFree", unfollowed := true, recurses := true, apart := false }
def FnManyCutsFreeSaid : Prop := fnManyCutsFreeRow.holds Try.pinned (OpenSpec.ofChange fnManyCutsFreeSpec)

/-- ITS FALSE NEIGHBOUR: 'it returns false'. Refute it at one input. -/
def fnManyCutsFreeWrong : ChangeSpec := { name := "fnManyCutsFree", fn := fun _ => fun
  | [d] => { results := [.lit (.bool false)], args := [d] }
  | _ => none }
def FnManyCutsFreeWrongFalsely : Prop := fnManyCutsFreeRow.holds Try.pinned (OpenSpec.ofChange fnManyCutsFreeWrong)

/-- 'laws.FnBestCuts': WHATEVER THE INPUT: true; the input reads as it did. -/
def fnBestCutsSpec : ChangeSpec := { name := "fnBestCuts", fn := fun _ => fun
  | [d] => { results := [.lit (.bool true)], args := [d] }
  | _ => none }
def fnBestCutsRow : OpenClaim := { program := "ytihgfhddljicaaa", sum := "164a4bd350ce3bf5737a514bca5dd4cb3097462f7fbb86efcc4e1c3fc6f4f939", func := "loop.example/icecores/laws.FnBestCuts", spec := "fnBestCuts", unfollowed := true, recurses := true, apart := false }
def FnBestCutsSaid : Prop := fnBestCutsRow.holds Try.pinned (OpenSpec.ofChange fnBestCutsSpec)

/-- ITS FALSE NEIGHBOUR: 'it returns false'. Refute it at one input. -/
def fnBestCutsWrong : ChangeSpec := { name := "fnBestCuts", fn := fun _ => fun
  | [d] => { results := [.lit (.bool false)], args := [d] }
  | _ => none }
def FnBestCutsWrongFalsely : Prop := fnBestCutsRow.holds Try.pinned (OpenSpec.ofChange fnBestCutsWrong)

/-- 'laws.FnBestIff': WHATEVER THE INPUT: true; the input reads as it did. -/
def fnBestIffSpec : ChangeSpec := { name := "fnBestIff", fn := fun _ => fun
  | [d] => { results := [.lit (.bool true)], args := [d] }
  | _ => none }
def fnBestIffRow : OpenClaim := { program := "ytihgfhddljicaaa", sum := "164a4bd350ce3bf5737a514bca5dd4cb3097462f7fbb86efcc4e1c3fc6f4f939", func := "loop.example/icecores/laws.FnBestIff", spec := "fnBestIff", unfollowed := true, recurses := true, apart := false }
def FnBestIffSaid : Prop := fnBestIffRow.holds Try.pinned (OpenSpec.ofChange fnBestIffSpec)

/-- ITS FALSE NEIGHBOUR: 'it returns false'. Refute it at one input. -/
def fnBestIffWrong : ChangeSpec := { name := "fnBestIff", fn := fun _ => fun
  | [d] => { results := [.lit (.bool false)], args := [d] }
  | _ => none }
def FnBestIffWrongFalsely : Prop := fnBestIffRow.holds Try.pinned (OpenSpec.ofChange fnBestIffWrong)

/-- 'laws.FnBestSuffix': WHATEVER THE INPUT: true; the input reads as it did. -/
def fnBestSuffixSpec : ChangeSpec := { name := "fnBestSuffix", fn := fun _ => fun
  | [d] => { results := [.lit (.bool true)], args := [d] }
  | _ => none }
def fnBestSuffixRow : OpenClaim := { program := "ytihgfhddljicaaa", sum := "164a4bd350ce3bf5737a514bca5dd4cb3097462f7fbb86efcc4e1c3fc6f4f939", func := "loop.example/icecores/laws.FnBestSuffix", spec := "fnBestSuffix", unfollowed := true, recurses := true, apart := false }
def FnBestSuffixSaid : Prop := fnBestSuffixRow.holds Try.pinned (OpenSpec.ofChange fnBestSuffixSpec)

/-- ITS FALSE NEIGHBOUR: 'it returns false'. Refute it at one input. -/
def fnBestSuffixWrong : ChangeSpec := { name := "fnBestSuffix", fn := fun _ => fun
  | [d] => { results := [.lit (.bool false)], args := [d] }
  | _ => none }
def FnBestSuffixWrongFalsely : Prop := fnBestSuffixRow.holds Try.pinned (OpenSpec.ofChange fnBestSuffixWrong)

/- THE SECOND FORM. 'bulk': how many values and letters a reading holds, each counted each time it is reached (what is shared counts as often as it is met; a slice's spare places count too). A statement '..UptoSaid' is the law's where the arguments, and the package variables that the reading takes, are together of bulk at most 1048576: NARROWER than '..Said'. Prove '..Said' where nothing that the law and all that it calls make is longer than what came in: it says more and counts as full. Else prove '..UptoSaid'. A law counts once. -/
mutual
def uptoBulk {H : Type} : DataW H → Nat
  | .lit (.string bytes) => bytes.length + 1
  | .lit _ => 1
  | .nil => 1
  | .ptr d => uptoBulk d + 1
  | .slice elems spare => uptoBulkAll elems + uptoBulkAll spare + 1
  | .agg parts => uptoBulkAll parts + 1
  | .iface _ d => uptoBulk d + 1
  | .map entries => uptoBulkEntries entries + 1
  | .held _ => 1
def uptoBulkAll {H : Type} : List (DataW H) → Nat
  | [] => 0
  | d :: r => uptoBulk d + uptoBulkAll r
def uptoBulkEntries {H : Type} : List (Lit × DataW H) → Nat
  | [] => 0
  | x :: r => uptoBulkEntry x + uptoBulkEntries r
def uptoBulkEntry {H : Type} : Lit × DataW H → Nat
  | (.string bytes, d) => bytes.length + uptoBulk d + 1
  | (_, d) => uptoBulk d + 1
 end
def uptoSmall : (H : Type) → List (DataW H) → Bool := fun _ ds => decide (uptoBulkAll ds ≤ 1048576)
def OpenSpec.upto (s : _root_.Go.ChangeSpec) : _root_.Go.OpenSpec := { _root_.Go.OpenSpec.ofChange s with cond := some uptoSmall }

/-- 'laws.FnAllowed', WHERE WHAT IT READS IS OF BULK AT MOST 1048576: true; the input reads as it did. -/
def fnAllowedUptoRow : OpenClaim := { program := "ytihgfhddljicaaa", sum := "164a4bd350ce3bf5737a514bca5dd4cb3097462f7fbb86efcc4e1c3fc6f4f939", func := "loop.example/icecores/laws.FnAllowed", spec := "fnAllowed", apart := false, narrowed := true }
def FnAllowedUptoSaid : Prop := fnAllowedUptoRow.holds Try.pinned (OpenSpec.upto fnAllowedSpec)

/-- 'laws.FnAllowedYears', WHERE WHAT IT READS IS OF BULK AT MOST 1048576: true; the input reads as it did. -/
def fnAllowedYearsUptoRow : OpenClaim := { program := "ytihgfhddljicaaa", sum := "164a4bd350ce3bf5737a514bca5dd4cb3097462f7fbb86efcc4e1c3fc6f4f939", func := "loop.example/icecores/laws.FnAllowedYears", spec := "fnAllowedYears", unfollowed := true, recurses := true, apart := false, narrowed := true }
def FnAllowedYearsUptoSaid : Prop := fnAllowedYearsUptoRow.holds Try.pinned (OpenSpec.upto fnAllowedYearsSpec)

/-- 'laws.FnCost', WHERE WHAT IT READS IS OF BULK AT MOST 1048576: true; the input reads as it did. -/
def fnCostUptoRow : OpenClaim := { program := "ytihgfhddljicaaa", sum := "164a4bd350ce3bf5737a514bca5dd4cb3097462f7fbb86efcc4e1c3fc6f4f939", func := "loop.example/icecores/laws.FnCost", spec := "fnCost", apart := false, narrowed := true }
def FnCostUptoSaid : Prop := fnCostUptoRow.holds Try.pinned (OpenSpec.upto fnCostSpec)

/-- 'laws.FnCostBest', WHERE WHAT IT READS IS OF BULK AT MOST 1048576: true; the input reads as it did. -/
def fnCostBestUptoRow : OpenClaim := { program := "ytihgfhddljicaaa", sum := "164a4bd350ce3bf5737a514bca5dd4cb3097462f7fbb86efcc4e1c3fc6f4f939", func := "loop.example/icecores/laws.FnCostBest", spec := "fnCostBest", unfollowed := true, recurses := true, apart := false, narrowed := true }
def FnCostBestUptoSaid : Prop := fnCostBestUptoRow.holds Try.pinned (OpenSpec.upto fnCostBestSpec)

/-- 'laws.FnManyCuts', WHERE WHAT IT READS IS OF BULK AT MOST 1048576: true; the input reads as it did. -/
def fnManyCutsUptoRow : OpenClaim := { program := "ytihgfhddljicaaa", sum := "164a4bd350ce3bf5737a514bca5dd4cb3097462f7fbb86efcc4e1c3fc6f4f939", func := "loop.example/icecores/laws.FnManyCuts", spec := "fnManyCuts", unfollowed := true, recurses := true, apart := false, narrowed := true }
def FnManyCutsUptoSaid : Prop := fnManyCutsUptoRow.holds Try.pinned (OpenSpec.upto fnManyCutsSpec)

/-- 'laws.FnManyCutsFree', WHERE WHAT IT READS IS OF BULK AT MOST 1048576: true; the input reads as it did. -/
def fnManyCutsFreeUptoRow : OpenClaim := { program := "ytihgfhddljicaaa", sum := "164a4bd350ce3bf5737a514bca5dd4cb3097462f7fbb86efcc4e1c3fc6f4f939", func := "loop.example/icecores/laws.FnManyCutsFree", spec := "fnManyCutsFree", unfollowed := true, recurses := true, apart := false, narrowed := true }
def FnManyCutsFreeUptoSaid : Prop := fnManyCutsFreeUptoRow.holds Try.pinned (OpenSpec.upto fnManyCutsFreeSpec)

/-- 'laws.FnBestCuts', WHERE WHAT IT READS IS OF BULK AT MOST 1048576: true; the input reads as it did. -/
def fnBestCutsUptoRow : OpenClaim := { program := "ytihgfhddljicaaa", sum := "164a4bd350ce3bf5737a514bca5dd4cb3097462f7fbb86efcc4e1c3fc6f4f939", func := "loop.example/icecores/laws.FnBestCuts", spec := "fnBestCuts", unfollowed := true, recurses := true, apart := false, narrowed := true }
def FnBestCutsUptoSaid : Prop := fnBestCutsUptoRow.holds Try.pinned (OpenSpec.upto fnBestCutsSpec)

/-- 'laws.FnBestIff', WHERE WHAT IT READS IS OF BULK AT MOST 1048576: true; the input reads as it did. -/
def fnBestIffUptoRow : OpenClaim := { program := "ytihgfhddljicaaa", sum := "164a4bd350ce3bf5737a514bca5dd4cb3097462f7fbb86efcc4e1c3fc6f4f939", func := "loop.example/icecores/laws.FnBestIff", spec := "fnBestIff", unfollowed := true, recurses := true, apart := false, narrowed := true }
def FnBestIffUptoSaid : Prop := fnBestIffUptoRow.holds Try.pinned (OpenSpec.upto fnBestIffSpec)

/-- 'laws.FnBestSuffix', WHERE WHAT IT READS IS OF BULK AT MOST 1048576: true; the input reads as it did. -/
def fnBestSuffixUptoRow : OpenClaim := { program := "ytihgfhddljicaaa", sum := "164a4bd350ce3bf5737a514bca5dd4cb3097462f7fbb86efcc4e1c3fc6f4f939", func := "loop.example/icecores/laws.FnBestSuffix", spec := "fnBestSuffix", unfollowed := true, recurses := true, apart := false, narrowed := true }
def FnBestSuffixUptoSaid : Prop := fnBestSuffixUptoRow.holds Try.pinned (OpenSpec.upto fnBestSuffixSpec)

end Rows
end Go.Proofs.Ytihgfhddljicaaa
