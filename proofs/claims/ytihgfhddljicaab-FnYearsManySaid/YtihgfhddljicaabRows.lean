/-
  No cell of these rows narrows 'for every input' (looked for: loops, veiled, ifaces, maps, wideKeys, modest, calm, conditions, laid).
  DERIVED. THE GIVEN ROWS OF THIS SEAT. 9 by the template 'for every input the law returns true; each argument reads behind the call as it read before'; 0 by the template 'total and deterministic' (their statements: YtihgfhddljicaabTotals.lean).
  GIVEN WITH THE SEED: the statements are not yours to turn. If you find one false, say at which input.
  Laid BY PROGRAM, IN A SANDBOX (cutbox-rows.mjs): the forced cells as the released guide's own fill.sh prints them over the translation 434730fe4db44744… (all of the seat's roots in one cut). By AI agents, Wed Nov 11 2026. No macro, syntax, notation, axiom, sorry.
-/
import Derived.Test.YtihgfhddljicaabChecked
import GoSem.Claim
import GoSem.ClaimJoined
import GoSem.ClaimMapViews
import Derived.JoinedTies
import Derived.KernelRfl
namespace Go.Proofs.Ytihgfhddljicaab
/- THE CELL 'sum', in the pinned program and in every row, IS THE sha256 OF THE DUMP (.gsa) THAT YtihgfhddljicaabProg.lean LOADS. Nothing in Lean hashes anything: it is a label: what it is worth is what the hold of that sum in a sandbox is worth. -/
noncomputable def Try.pinned : Pinned := { name := "ytihgfhddljicaab", sum := "434730fe4db4474483609b702ebf6761bc59c9ab0dbdbe1498ca52e033d028f8", checked := Try.checked }
namespace Rows
def none {H : Type} : Left H := { results := [], args := [] }

/-- 'laws.FnBestFree': WHATEVER THE INPUT: true; the input reads as it did. -/
def fnBestFreeSpec : ChangeSpec := { name := "fnBestFree", fn := fun _ => fun
  | [d] => { results := [.lit (.bool true)], args := [d] }
  | _ => none }
def fnBestFreeRow : OpenClaim := { program := "ytihgfhddljicaab", sum := "434730fe4db4474483609b702ebf6761bc59c9ab0dbdbe1498ca52e033d028f8", func := "loop.example/icecores/laws.FnBestFree", spec := "fnBestFree", unfollowed := true, recurses := true, apart := false }
def FnBestFreeSaid : Prop := fnBestFreeRow.holds Try.pinned (OpenSpec.ofChange fnBestFreeSpec)

/-- ITS FALSE NEIGHBOUR: 'it returns false'. Refute it at one input. -/
def fnBestFreeWrong : ChangeSpec := { name := "fnBestFree", fn := fun _ => fun
  | [d] => { results := [.lit (.bool false)], args := [d] }
  | _ => none }
def FnBestFreeWrongFalsely : Prop := fnBestFreeRow.holds Try.pinned (OpenSpec.ofChange fnBestFreeWrong)

/-- 'laws.FnBestTwice': WHATEVER THE INPUT: true; the input reads as it did. -/
def fnBestTwiceSpec : ChangeSpec := { name := "fnBestTwice", fn := fun _ => fun
  | [d] => { results := [.lit (.bool true)], args := [d] }
  | _ => none }
def fnBestTwiceRow : OpenClaim := { program := "ytihgfhddljicaab", sum := "434730fe4db4474483609b702ebf6761bc59c9ab0dbdbe1498ca52e033d028f8", func := "loop.example/icecores/laws.FnBestTwice", spec := "fnBestTwice", unfollowed := true, recurses := true, apart := false }
def FnBestTwiceSaid : Prop := fnBestTwiceRow.holds Try.pinned (OpenSpec.ofChange fnBestTwiceSpec)

/-- ITS FALSE NEIGHBOUR: 'it returns false'. Refute it at one input. -/
def fnBestTwiceWrong : ChangeSpec := { name := "fnBestTwice", fn := fun _ => fun
  | [d] => { results := [.lit (.bool false)], args := [d] }
  | _ => none }
def FnBestTwiceWrongFalsely : Prop := fnBestTwiceRow.holds Try.pinned (OpenSpec.ofChange fnBestTwiceWrong)

/-- 'laws.FnYears': WHATEVER THE INPUT: true; the input reads as it did. -/
def fnYearsSpec : ChangeSpec := { name := "fnYears", fn := fun _ => fun
  | [d] => { results := [.lit (.bool true)], args := [d] }
  | _ => none }
def fnYearsRow : OpenClaim := { program := "ytihgfhddljicaab", sum := "434730fe4db4474483609b702ebf6761bc59c9ab0dbdbe1498ca52e033d028f8", func := "loop.example/icecores/laws.FnYears", spec := "fnYears", unfollowed := true, recurses := true, apart := false }
def FnYearsSaid : Prop := fnYearsRow.holds Try.pinned (OpenSpec.ofChange fnYearsSpec)

/-- ITS FALSE NEIGHBOUR: 'it returns false'. Refute it at one input. -/
def fnYearsWrong : ChangeSpec := { name := "fnYears", fn := fun _ => fun
  | [d] => { results := [.lit (.bool false)], args := [d] }
  | _ => none }
def FnYearsWrongFalsely : Prop := fnYearsRow.holds Try.pinned (OpenSpec.ofChange fnYearsWrong)

/-- 'laws.FnManyCutsLess': WHATEVER THE INPUT: true; the input reads as it did. -/
def fnManyCutsLessSpec : ChangeSpec := { name := "fnManyCutsLess", fn := fun _ => fun
  | [d] => { results := [.lit (.bool true)], args := [d] }
  | _ => none }
def fnManyCutsLessRow : OpenClaim := { program := "ytihgfhddljicaab", sum := "434730fe4db4474483609b702ebf6761bc59c9ab0dbdbe1498ca52e033d028f8", func := "loop.example/icecores/laws.FnManyCutsLess", spec := "fnManyCutsLess", unfollowed := true, recurses := true, apart := false }
def FnManyCutsLessSaid : Prop := fnManyCutsLessRow.holds Try.pinned (OpenSpec.ofChange fnManyCutsLessSpec)

/-- ITS FALSE NEIGHBOUR: 'it returns false'. Refute it at one input. -/
def fnManyCutsLessWrong : ChangeSpec := { name := "fnManyCutsLess", fn := fun _ => fun
  | [d] => { results := [.lit (.bool false)], args := [d] }
  | _ => none }
def FnManyCutsLessWrongFalsely : Prop := fnManyCutsLessRow.holds Try.pinned (OpenSpec.ofChange fnManyCutsLessWrong)

/-- 'laws.FnBestWider': WHATEVER THE INPUT: true; the input reads as it did. -/
def fnBestWiderSpec : ChangeSpec := { name := "fnBestWider", fn := fun _ => fun
  | [d] => { results := [.lit (.bool true)], args := [d] }
  | _ => none }
def fnBestWiderRow : OpenClaim := { program := "ytihgfhddljicaab", sum := "434730fe4db4474483609b702ebf6761bc59c9ab0dbdbe1498ca52e033d028f8", func := "loop.example/icecores/laws.FnBestWider", spec := "fnBestWider", unfollowed := true, recurses := true, apart := false }
def FnBestWiderSaid : Prop := fnBestWiderRow.holds Try.pinned (OpenSpec.ofChange fnBestWiderSpec)

/-- ITS FALSE NEIGHBOUR: 'it returns false'. Refute it at one input. -/
def fnBestWiderWrong : ChangeSpec := { name := "fnBestWider", fn := fun _ => fun
  | [d] => { results := [.lit (.bool false)], args := [d] }
  | _ => none }
def FnBestWiderWrongFalsely : Prop := fnBestWiderRow.holds Try.pinned (OpenSpec.ofChange fnBestWiderWrong)

/-- 'laws.FnBestMore': WHATEVER THE INPUT: true; the input reads as it did. -/
def fnBestMoreSpec : ChangeSpec := { name := "fnBestMore", fn := fun _ => fun
  | [d1, d2] => { results := [.lit (.bool true)], args := [d1, d2] }
  | _ => none }
def fnBestMoreRow : OpenClaim := { program := "ytihgfhddljicaab", sum := "434730fe4db4474483609b702ebf6761bc59c9ab0dbdbe1498ca52e033d028f8", func := "loop.example/icecores/laws.FnBestMore", spec := "fnBestMore", unfollowed := true, recurses := true, apart := false }
def FnBestMoreSaid : Prop := fnBestMoreRow.holds Try.pinned (OpenSpec.ofChange fnBestMoreSpec)

/-- ITS FALSE NEIGHBOUR: 'it returns false'. Refute it at one input. -/
def fnBestMoreWrong : ChangeSpec := { name := "fnBestMore", fn := fun _ => fun
  | [d1, d2] => { results := [.lit (.bool false)], args := [d1, d2] }
  | _ => none }
def FnBestMoreWrongFalsely : Prop := fnBestMoreRow.holds Try.pinned (OpenSpec.ofChange fnBestMoreWrong)

/-- 'laws.FnYearsMany': WHATEVER THE INPUT: true; the input reads as it did. -/
def fnYearsManySpec : ChangeSpec := { name := "fnYearsMany", fn := fun _ => fun
  | [d] => { results := [.lit (.bool true)], args := [d] }
  | _ => none }
def fnYearsManyRow : OpenClaim := { program := "ytihgfhddljicaab", sum := "434730fe4db4474483609b702ebf6761bc59c9ab0dbdbe1498ca52e033d028f8", func := "loop.example/icecores/laws.FnYearsMany", spec := "fnYearsMany", unfollowed := true, recurses := true, apart := false }
def FnYearsManySaid : Prop := fnYearsManyRow.holds Try.pinned (OpenSpec.ofChange fnYearsManySpec)

/-- ITS FALSE NEIGHBOUR: 'it returns false'. Refute it at one input. -/
def fnYearsManyWrong : ChangeSpec := { name := "fnYearsMany", fn := fun _ => fun
  | [d] => { results := [.lit (.bool false)], args := [d] }
  | _ => none }
def FnYearsManyWrongFalsely : Prop := fnYearsManyRow.holds Try.pinned (OpenSpec.ofChange fnYearsManyWrong)

/-- 'laws.FnAllowedEach': WHATEVER THE INPUT: true; the input reads as it did. -/
def fnAllowedEachSpec : ChangeSpec := { name := "fnAllowedEach", fn := fun _ => fun
  | [d] => { results := [.lit (.bool true)], args := [d] }
  | _ => none }
def fnAllowedEachRow : OpenClaim := { program := "ytihgfhddljicaab", sum := "434730fe4db4474483609b702ebf6761bc59c9ab0dbdbe1498ca52e033d028f8", func := "loop.example/icecores/laws.FnAllowedEach", spec := "fnAllowedEach", apart := false }
def FnAllowedEachSaid : Prop := fnAllowedEachRow.holds Try.pinned (OpenSpec.ofChange fnAllowedEachSpec)

/-- ITS FALSE NEIGHBOUR: 'it returns false'. Refute it at one input. -/
def fnAllowedEachWrong : ChangeSpec := { name := "fnAllowedEach", fn := fun _ => fun
  | [d] => { results := [.lit (.bool false)], args := [d] }
  | _ => none }
def FnAllowedEachWrongFalsely : Prop := fnAllowedEachRow.holds Try.pinned (OpenSpec.ofChange fnAllowedEachWrong)

/-- 'laws.FnExactCutsAllowed': WHATEVER THE INPUT: true; the input reads as it did. -/
def fnExactCutsAllowedSpec : ChangeSpec := { name := "fnExactCutsAllowed", fn := fun _ => fun
  | [d1, d2, d3, d4] => { results := [.lit (.bool true)], args := [d1, d2, d3, d4] }
  | _ => none }
def fnExactCutsAllowedRow : OpenClaim := { program := "ytihgfhddljicaab", sum := "434730fe4db4474483609b702ebf6761bc59c9ab0dbdbe1498ca52e033d028f8", func := "loop.example/icecores/laws.FnExactCutsAllowed", spec := "fnExactCutsAllowed", apart := false }
def FnExactCutsAllowedSaid : Prop := fnExactCutsAllowedRow.holds Try.pinned (OpenSpec.ofChange fnExactCutsAllowedSpec)

/-- ITS FALSE NEIGHBOUR: 'it returns false'. Refute it at one input. -/
def fnExactCutsAllowedWrong : ChangeSpec := { name := "fnExactCutsAllowed", fn := fun _ => fun
  | [d1, d2, d3, d4] => { results := [.lit (.bool false)], args := [d1, d2, d3, d4] }
  | _ => none }
def FnExactCutsAllowedWrongFalsely : Prop := fnExactCutsAllowedRow.holds Try.pinned (OpenSpec.ofChange fnExactCutsAllowedWrong)

/- THE SECOND FORM. 'bulk': how many values and letters a reading holds, each counted each time it is reached (what is shared counts as often as it is met; a slice's spare places count too). A statement '..UptoSaid' is the law's where the arguments, and the package variables that the reading takes, are together of bulk at most 1048576: NARROWER than '..Said'. Prove '..Said' where nothing that the law and all that it calls make is longer than what came in: it says more and counts as full. Else prove '..UptoSaid'. A law counts once. -/
mutual
def uptoBulk {H : Type} : DataW H → Nat
  | .lit (.string bytes) => bytes.length + 1
  | .lit _ => 1
  | .nil => 1
  | .ptr d => uptoBulk d + 1
  | .slice elems spare => uptoBulkAll elems + uptoBulkAll spare + 1
  | .agg parts => uptoBulkAll parts + 1
  | .iface _ d => uptoBulk d + 1
  | .map entries => uptoBulkEntries entries + 1
  | .held _ => 1
def uptoBulkAll {H : Type} : List (DataW H) → Nat
  | [] => 0
  | d :: r => uptoBulk d + uptoBulkAll r
def uptoBulkEntries {H : Type} : List (Lit × DataW H) → Nat
  | [] => 0
  | x :: r => uptoBulkEntry x + uptoBulkEntries r
def uptoBulkEntry {H : Type} : Lit × DataW H → Nat
  | (.string bytes, d) => bytes.length + uptoBulk d + 1
  | (_, d) => uptoBulk d + 1
 end
def uptoSmall : (H : Type) → List (DataW H) → Bool := fun _ ds => decide (uptoBulkAll ds ≤ 1048576)
def OpenSpec.upto (s : _root_.Go.ChangeSpec) : _root_.Go.OpenSpec := { _root_.Go.OpenSpec.ofChange s with cond := some uptoSmall }

/-- 'laws.FnBestFree', WHERE WHAT IT READS IS OF BULK AT MOST 1048576: true; the input reads as it did. -/
def fnBestFreeUptoRow : OpenClaim := { program := "ytihgfhddljicaab", sum := "434730fe4db4474483609b702ebf6761bc59c9ab0dbdbe1498ca52e033d028f8", func := "loop.example/icecores/laws.FnBestFree", spec := "fnBestFree", unfollowed := true, recurses := true, apart := false, narrowed := true }
def FnBestFreeUptoSaid : Prop := fnBestFreeUptoRow.holds Try.pinned (OpenSpec.upto fnBestFreeSpec)

/-- 'laws.FnBestTwice', WHERE WHAT IT READS IS OF BULK AT MOST 1048576: true; the input reads as it did. -/
def fnBestTwiceUptoRow : OpenClaim := { program := "ytihgfhddljicaab", sum := "434730fe4db4474483609b702ebf6761bc59c9ab0dbdbe1498ca52e033d028f8", func := "loop.example/icecores/laws.FnBestTwice", spec := "fnBestTwice", unfollowed := true, recurses := true, apart := false, narrowed := true }
def FnBestTwiceUptoSaid : Prop := fnBestTwiceUptoRow.holds Try.pinned (OpenSpec.upto fnBestTwiceSpec)

/-- 'laws.FnYears', WHERE WHAT IT READS IS OF BULK AT MOST 1048576: true; the input reads as it did. -/
def fnYearsUptoRow : OpenClaim := { program := "ytihgfhddljicaab", sum := "434730fe4db4474483609b702ebf6761bc59c9ab0dbdbe1498ca52e033d028f8", func := "loop.example/icecores/laws.FnYears", spec := "fnYears", unfollowed := true, recurses := true, apart := false, narrowed := true }
def FnYearsUptoSaid : Prop := fnYearsUptoRow.holds Try.pinned (OpenSpec.upto fnYearsSpec)

/-- 'laws.FnManyCutsLess', WHERE WHAT IT READS IS OF BULK AT MOST 1048576: true; the input reads as it did. -/
def fnManyCutsLessUptoRow : OpenClaim := { program := "ytihgfhddljicaab", sum := "434730fe4db4474483609b702ebf6761bc59c9ab0dbdbe1498ca52e033d028f8", func := "loop.example/icecores/laws.FnManyCutsLess", spec := "fnManyCutsLess", unfollowed := true, recurses := true, apart := false, narrowed := true }
def FnManyCutsLessUptoSaid : Prop := fnManyCutsLessUptoRow.holds Try.pinned (OpenSpec.upto fnManyCutsLessSpec)

/-- 'laws.FnBestWider', WHERE WHAT IT READS IS OF BULK AT MOST 1048576: true; the input reads as it did. -/
def fnBestWiderUptoRow : OpenClaim := { program := "ytihgfhddljicaab", sum := "434730fe4db4474483609b702ebf6761bc59c9ab0dbdbe1498ca52e033d028f8", func := "loop.example/icecores/laws.FnBestWider", spec := "fnBestWider", unfollowed := true, recurses := true, apart := false, narrowed := true }
def FnBestWiderUptoSaid : Prop := fnBestWiderUptoRow.holds Try.pinned (OpenSpec.upto fnBestWiderSpec)

/-- 'laws.FnBestMore', WHERE WHAT IT READS IS OF BULK AT MOST 1048576: true; the input reads as it did. -/
def fnBestMoreUptoRow : OpenClaim := { program := "ytihgfhddljicaab", sum := "434730fe4db4474483609b702ebf6761bc59c9ab0dbdbe1498ca52e033d028f8", func := "loop.example/icecores/laws.FnBestMore", spec := "fnBestMore", unfollowed := true, recurses := true, apart := false, narrowed := true }
def FnBestMoreUptoSaid : Prop := fnBestMoreUptoRow.holds Try.pinned (OpenSpec.upto fnBestMoreSpec)

/-- 'laws.FnYearsMany', WHERE WHAT IT READS IS OF BULK AT MOST 1048576: true; the input reads as it did. -/
def fnYearsManyUptoRow : OpenClaim := { program := "ytihgfhddljicaab", sum := "434730fe4db4474483609b702ebf6761bc59c9ab0dbdbe1498ca52e033d028f8", func := "loop.example/icecores/laws.FnYearsMany", spec := "fnYearsMany", unfollowed := true, recurses := true, apart := false, narrowed := true }
def FnYearsManyUptoSaid : Prop := fnYearsManyUptoRow.holds Try.pinned (OpenSpec.upto fnYearsManySpec)

/-- 'laws.FnAllowedEach', WHERE WHAT IT READS IS OF BULK AT MOST 1048576: true; the input reads as it did. -/
def fnAllowedEachUptoRow : OpenClaim := { program := "ytihgfhddljicaab", sum := "434730fe4db4474483609b702ebf6761bc59c9ab0dbdbe1498ca52e033d028f8", func := "loop.example/icecores/laws.FnAllowedEach", spec := "fnAllowedEach", apart := false, narrowed := true }
def FnAllowedEachUptoSaid : Prop := fnAllowedEachUptoRow.holds Try.pinned (OpenSpec.upto fnAllowedEachSpec)

/-- 'laws.FnExactCutsAllowed', WHERE WHAT IT READS IS OF BULK AT MOST 1048576: true; the input reads as it did. -/
def fnExactCutsAllowedUptoRow : OpenClaim := { program := "ytihgfhddljicaab", sum := "434730fe4db4474483609b702ebf6761bc59c9ab0dbdbe1498ca52e033d028f8", func := "loop.example/icecores/laws.FnExactCutsAllowed", spec := "fnExactCutsAllowed", apart := false, narrowed := true }
def FnExactCutsAllowedUptoSaid : Prop := fnExactCutsAllowedUptoRow.holds Try.pinned (OpenSpec.upto fnExactCutsAllowedSpec)

end Rows
end Go.Proofs.Ytihgfhddljicaab
