/-
  No cell of these rows narrows 'for every input' (looked for: loops, veiled, ifaces, maps, wideKeys, modest, calm, conditions, laid).
  DERIVED. THE GIVEN ROWS OF THIS SEAT. 9 by the template 'for every input the law returns true; each argument reads behind the call as it read before'; 0 by the template 'total and deterministic' (their statements: YtkcbgeldnibjcabTotals.lean).
  GIVEN WITH THE SEED: the statements are not yours to turn. If you find one false, say at which input.
  Laid BY PROGRAM, IN A SANDBOX (cutbox-rows.mjs): the forced cells as the released guide's own fill.sh prints them over the translation bbf5560d89c3dd4f… (all of the seat's roots in one cut). By AI agents, Wed Nov 11 2026. No macro, syntax, notation, axiom, sorry.
-/
import Derived.Test.YtkcbgeldnibjcabChecked
import GoSem.Claim
import GoSem.ClaimJoined
import GoSem.ClaimMapViews
import Derived.JoinedTies
import Derived.KernelRfl
namespace Go.Proofs.Ytkcbgeldnibjcab
/- THE CELL 'sum', in the pinned program and in every row, IS THE sha256 OF THE DUMP (.gsa) THAT YtkcbgeldnibjcabProg.lean LOADS. Nothing in Lean hashes anything: it is a label: what it is worth is what the hold of that sum in a sandbox is worth. -/
noncomputable def Try.pinned : Pinned := { name := "ytkcbgeldnibjcab", sum := "bbf5560d89c3dd4f1321ffd72715b83ebcf969b218139c37f6d99ad61e44011a", checked := Try.checked }
namespace Rows
def none {H : Type} : Left H := { results := [], args := [] }

/-- 'laws.FnMean': WHATEVER THE INPUT: true; the input reads as it did. -/
def fnMeanSpec : ChangeSpec := { name := "fnMean", fn := fun _ => fun
  | [d] => { results := [.lit (.bool true)], args := [d] }
  | _ => none }
def fnMeanRow : OpenClaim := { program := "ytkcbgeldnibjcab", sum := "bbf5560d89c3dd4f1321ffd72715b83ebcf969b218139c37f6d99ad61e44011a", func := "loop.example/icecores/laws.FnMean", spec := "fnMean", unfollowed := true, recurses := true, apart := false }
def FnMeanSaid : Prop := fnMeanRow.holds Try.pinned (OpenSpec.ofChange fnMeanSpec)

/-- ITS FALSE NEIGHBOUR: 'it returns false'. Refute it at one input. -/
def fnMeanWrong : ChangeSpec := { name := "fnMean", fn := fun _ => fun
  | [d] => { results := [.lit (.bool false)], args := [d] }
  | _ => none }
def FnMeanWrongFalsely : Prop := fnMeanRow.holds Try.pinned (OpenSpec.ofChange fnMeanWrong)

/-- 'laws.FnMeanBin': WHATEVER THE INPUT: true; the input reads as it did. -/
def fnMeanBinSpec : ChangeSpec := { name := "fnMeanBin", fn := fun _ => fun
  | [d1, d2] => { results := [.lit (.bool true)], args := [d1, d2] }
  | _ => none }
def fnMeanBinRow : OpenClaim := { program := "ytkcbgeldnibjcab", sum := "bbf5560d89c3dd4f1321ffd72715b83ebcf969b218139c37f6d99ad61e44011a", func := "loop.example/icecores/laws.FnMeanBin", spec := "fnMeanBin", unfollowed := true, recurses := true, apart := false }
def FnMeanBinSaid : Prop := fnMeanBinRow.holds Try.pinned (OpenSpec.ofChange fnMeanBinSpec)

/-- ITS FALSE NEIGHBOUR: 'it returns false'. Refute it at one input. -/
def fnMeanBinWrong : ChangeSpec := { name := "fnMeanBin", fn := fun _ => fun
  | [d1, d2] => { results := [.lit (.bool false)], args := [d1, d2] }
  | _ => none }
def FnMeanBinWrongFalsely : Prop := fnMeanBinRow.holds Try.pinned (OpenSpec.ofChange fnMeanBinWrong)

/-- 'laws.FnBetweenMore': WHATEVER THE INPUT: true; the input reads as it did. -/
def fnBetweenMoreSpec : ChangeSpec := { name := "fnBetweenMore", fn := fun _ => fun
  | [d] => { results := [.lit (.bool true)], args := [d] }
  | _ => none }
def fnBetweenMoreRow : OpenClaim := { program := "ytkcbgeldnibjcab", sum := "bbf5560d89c3dd4f1321ffd72715b83ebcf969b218139c37f6d99ad61e44011a", func := "loop.example/icecores/laws.FnBetweenMore", spec := "fnBetweenMore", unfollowed := true, recurses := true, apart := false }
def FnBetweenMoreSaid : Prop := fnBetweenMoreRow.holds Try.pinned (OpenSpec.ofChange fnBetweenMoreSpec)

/-- ITS FALSE NEIGHBOUR: 'it returns false'. Refute it at one input. -/
def fnBetweenMoreWrong : ChangeSpec := { name := "fnBetweenMore", fn := fun _ => fun
  | [d] => { results := [.lit (.bool false)], args := [d] }
  | _ => none }
def FnBetweenMoreWrongFalsely : Prop := fnBetweenMoreRow.holds Try.pinned (OpenSpec.ofChange fnBetweenMoreWrong)

/-- 'laws.FnMergeBetween': WHATEVER THE INPUT: true; the input reads as it did. -/
def fnMergeBetweenSpec : ChangeSpec := { name := "fnMergeBetween", fn := fun _ => fun
  | [d1, d2] => { results := [.lit (.bool true)], args := [d1, d2] }
  | _ => none }
def fnMergeBetweenRow : OpenClaim := { program := "ytkcbgeldnibjcab", sum := "bbf5560d89c3dd4f1321ffd72715b83ebcf969b218139c37f6d99ad61e44011a", func := "loop.example/icecores/laws.FnMergeBetween", spec := "fnMergeBetween", unfollowed := true, recurses := true, apart := false }
def FnMergeBetweenSaid : Prop := fnMergeBetweenRow.holds Try.pinned (OpenSpec.ofChange fnMergeBetweenSpec)

/-- ITS FALSE NEIGHBOUR: 'it returns false'. Refute it at one input. -/
def fnMergeBetweenWrong : ChangeSpec := { name := "fnMergeBetween", fn := fun _ => fun
  | [d1, d2] => { results := [.lit (.bool false)], args := [d1, d2] }
  | _ => none }
def FnMergeBetweenWrongFalsely : Prop := fnMergeBetweenRow.holds Try.pinned (OpenSpec.ofChange fnMergeBetweenWrong)

/-- 'laws.FnTotalParts': WHATEVER THE INPUT: true; the input reads as it did. -/
def fnTotalPartsSpec : ChangeSpec := { name := "fnTotalParts", fn := fun _ => fun
  | [d1, d2] => { results := [.lit (.bool true)], args := [d1, d2] }
  | _ => none }
def fnTotalPartsRow : OpenClaim := { program := "ytkcbgeldnibjcab", sum := "bbf5560d89c3dd4f1321ffd72715b83ebcf969b218139c37f6d99ad61e44011a", func := "loop.example/icecores/laws.FnTotalParts", spec := "fnTotalParts", apart := false }
def FnTotalPartsSaid : Prop := fnTotalPartsRow.holds Try.pinned (OpenSpec.ofChange fnTotalPartsSpec)

/-- ITS FALSE NEIGHBOUR: 'it returns false'. Refute it at one input. -/
def fnTotalPartsWrong : ChangeSpec := { name := "fnTotalParts", fn := fun _ => fun
  | [d1, d2] => { results := [.lit (.bool false)], args := [d1, d2] }
  | _ => none }
def FnTotalPartsWrongFalsely : Prop := fnTotalPartsRow.holds Try.pinned (OpenSpec.ofChange fnTotalPartsWrong)

/-- 'laws.FnRebinFine': WHATEVER THE INPUT: true; the input reads as it did. -/
def fnRebinFineSpec : ChangeSpec := { name := "fnRebinFine", fn := fun _ => fun
  | [d] => { results := [.lit (.bool true)], args := [d] }
  | _ => none }
def fnRebinFineRow : OpenClaim := { program := "ytkcbgeldnibjcab", sum := "bbf5560d89c3dd4f1321ffd72715b83ebcf969b218139c37f6d99ad61e44011a", func := "loop.example/icecores/laws.FnRebinFine", spec := "fnRebinFine", unfollowed := true, recurses := true, apart := false }
def FnRebinFineSaid : Prop := fnRebinFineRow.holds Try.pinned (OpenSpec.ofChange fnRebinFineSpec)

/-- ITS FALSE NEIGHBOUR: 'it returns false'. Refute it at one input. -/
def fnRebinFineWrong : ChangeSpec := { name := "fnRebinFine", fn := fun _ => fun
  | [d] => { results := [.lit (.bool false)], args := [d] }
  | _ => none }
def FnRebinFineWrongFalsely : Prop := fnRebinFineRow.holds Try.pinned (OpenSpec.ofChange fnRebinFineWrong)

/-- 'laws.FnMeanParts': WHATEVER THE INPUT: true; the input reads as it did. -/
def fnMeanPartsSpec : ChangeSpec := { name := "fnMeanParts", fn := fun _ => fun
  | [d1, d2] => { results := [.lit (.bool true)], args := [d1, d2] }
  | _ => none }
def fnMeanPartsRow : OpenClaim := { program := "ytkcbgeldnibjcab", sum := "bbf5560d89c3dd4f1321ffd72715b83ebcf969b218139c37f6d99ad61e44011a", func := "loop.example/icecores/laws.FnMeanParts", spec := "fnMeanParts", unfollowed := true, recurses := true, apart := false }
def FnMeanPartsSaid : Prop := fnMeanPartsRow.holds Try.pinned (OpenSpec.ofChange fnMeanPartsSpec)

/-- ITS FALSE NEIGHBOUR: 'it returns false'. Refute it at one input. -/
def fnMeanPartsWrong : ChangeSpec := { name := "fnMeanParts", fn := fun _ => fun
  | [d1, d2] => { results := [.lit (.bool false)], args := [d1, d2] }
  | _ => none }
def FnMeanPartsWrongFalsely : Prop := fnMeanPartsRow.holds Try.pinned (OpenSpec.ofChange fnMeanPartsWrong)

/-- 'laws.FnExactRecordValid': WHATEVER THE INPUT: true; the input reads as it did. -/
def fnExactRecordValidSpec : ChangeSpec := { name := "fnExactRecordValid", fn := fun _ => fun
  | [d1, d2] => { results := [.lit (.bool true)], args := [d1, d2] }
  | _ => none }
def fnExactRecordValidRow : OpenClaim := { program := "ytkcbgeldnibjcab", sum := "bbf5560d89c3dd4f1321ffd72715b83ebcf969b218139c37f6d99ad61e44011a", func := "loop.example/icecores/laws.FnExactRecordValid", spec := "fnExactRecordValid", apart := false }
def FnExactRecordValidSaid : Prop := fnExactRecordValidRow.holds Try.pinned (OpenSpec.ofChange fnExactRecordValidSpec)

/-- ITS FALSE NEIGHBOUR: 'it returns false'. Refute it at one input. -/
def fnExactRecordValidWrong : ChangeSpec := { name := "fnExactRecordValid", fn := fun _ => fun
  | [d1, d2] => { results := [.lit (.bool false)], args := [d1, d2] }
  | _ => none }
def FnExactRecordValidWrongFalsely : Prop := fnExactRecordValidRow.holds Try.pinned (OpenSpec.ofChange fnExactRecordValidWrong)

/-- 'laws.FnExactRecordTotal': WHATEVER THE INPUT: true; the input reads as it did. -/
def fnExactRecordTotalSpec : ChangeSpec := { name := "fnExactRecordTotal", fn := fun _ => fun
  | [d1, d2] => { results := [.lit (.bool true)], args := [d1, d2] }
  | _ => none }
def fnExactRecordTotalRow : OpenClaim := { program := "ytkcbgeldnibjcab", sum := "bbf5560d89c3dd4f1321ffd72715b83ebcf969b218139c37f6d99ad61e44011a", func := "loop.example/icecores/laws.FnExactRecordTotal", spec := "fnExactRecordTotal", apart := false }
def FnExactRecordTotalSaid : Prop := fnExactRecordTotalRow.holds Try.pinned (OpenSpec.ofChange fnExactRecordTotalSpec)

/-- ITS FALSE NEIGHBOUR: 'it returns false'. Refute it at one input. -/
def fnExactRecordTotalWrong : ChangeSpec := { name := "fnExactRecordTotal", fn := fun _ => fun
  | [d1, d2] => { results := [.lit (.bool false)], args := [d1, d2] }
  | _ => none }
def FnExactRecordTotalWrongFalsely : Prop := fnExactRecordTotalRow.holds Try.pinned (OpenSpec.ofChange fnExactRecordTotalWrong)

/- THE SECOND FORM. 'bulk': how many values and letters a reading holds, each counted each time it is reached (what is shared counts as often as it is met; a slice's spare places count too). A statement '..UptoSaid' is the law's where the arguments, and the package variables that the reading takes, are together of bulk at most 1048576: NARROWER than '..Said'. Prove '..Said' where nothing that the law and all that it calls make is longer than what came in: it says more and counts as full. Else prove '..UptoSaid'. A law counts once. -/
mutual
def uptoBulk {H : Type} : DataW H → Nat
  | .lit (.string bytes) => bytes.length + 1
  | .lit _ => 1
  | .nil => 1
  | .ptr d => uptoBulk d + 1
  | .slice elems spare => uptoBulkAll elems + uptoBulkAll spare + 1
  | .agg parts => uptoBulkAll parts + 1
  | .iface _ d => uptoBulk d + 1
  | .map entries => uptoBulkEntries entries + 1
  | .held _ => 1
def uptoBulkAll {H : Type} : List (DataW H) → Nat
  | [] => 0
  | d :: r => uptoBulk d + uptoBulkAll r
def uptoBulkEntries {H : Type} : List (Lit × DataW H) → Nat
  | [] => 0
  | x :: r => uptoBulkEntry x + uptoBulkEntries r
def uptoBulkEntry {H : Type} : Lit × DataW H → Nat
  | (.string bytes, d) => bytes.length + uptoBulk d + 1
  | (_, d) => uptoBulk d + 1
 end
def uptoSmall : (H : Type) → List (DataW H) → Bool := fun _ ds => decide (uptoBulkAll ds ≤ 1048576)
def OpenSpec.upto (s : _root_.Go.ChangeSpec) : _root_.Go.OpenSpec := { _root_.Go.OpenSpec.ofChange s with cond := some uptoSmall }

/-- 'laws.FnMean', WHERE WHAT IT READS IS OF BULK AT MOST 1048576: true; the input reads as it did. -/
def fnMeanUptoRow : OpenClaim := { program := "ytkcbgeldnibjcab", sum := "bbf5560d89c3dd4f1321ffd72715b83ebcf969b218139c37f6d99ad61e44011a", func := "loop.example/icecores/laws.FnMean", spec := "fnMean", unfollowed := true, recurses := true, apart := false, narrowed := true }
def FnMeanUptoSaid : Prop := fnMeanUptoRow.holds Try.pinned (OpenSpec.upto fnMeanSpec)

/-- 'laws.FnMeanBin', WHERE WHAT IT READS IS OF BULK AT MOST 1048576: true; the input reads as it did. -/
def fnMeanBinUptoRow : OpenClaim := { program := "ytkcbgeldnibjcab", sum := "bbf5560d89c3dd4f1321ffd72715b83ebcf969b218139c37f6d99ad61e44011a", func := "loop.example/icecores/laws.FnMeanBin", spec := "fnMeanBin", unfollowed := true, recurses := true, apart := false, narrowed := true }
def FnMeanBinUptoSaid : Prop := fnMeanBinUptoRow.holds Try.pinned (OpenSpec.upto fnMeanBinSpec)

/-- 'laws.FnBetweenMore', WHERE WHAT IT READS IS OF BULK AT MOST 1048576: true; the input reads as it did. -/
def fnBetweenMoreUptoRow : OpenClaim := { program := "ytkcbgeldnibjcab", sum := "bbf5560d89c3dd4f1321ffd72715b83ebcf969b218139c37f6d99ad61e44011a", func := "loop.example/icecores/laws.FnBetweenMore", spec := "fnBetweenMore", unfollowed := true, recurses := true, apart := false, narrowed := true }
def FnBetweenMoreUptoSaid : Prop := fnBetweenMoreUptoRow.holds Try.pinned (OpenSpec.upto fnBetweenMoreSpec)

/-- 'laws.FnMergeBetween', WHERE WHAT IT READS IS OF BULK AT MOST 1048576: true; the input reads as it did. -/
def fnMergeBetweenUptoRow : OpenClaim := { program := "ytkcbgeldnibjcab", sum := "bbf5560d89c3dd4f1321ffd72715b83ebcf969b218139c37f6d99ad61e44011a", func := "loop.example/icecores/laws.FnMergeBetween", spec := "fnMergeBetween", unfollowed := true, recurses := true, apart := false, narrowed := true }
def FnMergeBetweenUptoSaid : Prop := fnMergeBetweenUptoRow.holds Try.pinned (OpenSpec.upto fnMergeBetweenSpec)

/-- 'laws.FnTotalParts', WHERE WHAT IT READS IS OF BULK AT MOST 1048576: true; the input reads as it did. -/
def fnTotalPartsUptoRow : OpenClaim := { program := "ytkcbgeldnibjcab", sum := "bbf5560d89c3dd4f1321ffd72715b83ebcf969b218139c37f6d99ad61e44011a", func := "loop.example/icecores/laws.FnTotalParts", spec := "fnTotalParts", apart := false, narrowed := true }
def FnTotalPartsUptoSaid : Prop := fnTotalPartsUptoRow.holds Try.pinned (OpenSpec.upto fnTotalPartsSpec)

/-- 'laws.FnRebinFine', WHERE WHAT IT READS IS OF BULK AT MOST 1048576: true; the input reads as it did. -/
def fnRebinFineUptoRow : OpenClaim := { program := "ytkcbgeldnibjcab", sum := "bbf5560d89c3dd4f1321ffd72715b83ebcf969b218139c37f6d99ad61e44011a", func := "loop.example/icecores/laws.FnRebinFine", spec := "fnRebinFine", unfollowed := true, recurses := true, apart := false, narrowed := true }
def FnRebinFineUptoSaid : Prop := fnRebinFineUptoRow.holds Try.pinned (OpenSpec.upto fnRebinFineSpec)

/-- 'laws.FnMeanParts', WHERE WHAT IT READS IS OF BULK AT MOST 1048576: true; the input reads as it did. -/
def fnMeanPartsUptoRow : OpenClaim := { program := "ytkcbgeldnibjcab", sum := "bbf5560d89c3dd4f1321ffd72715b83ebcf969b218139c37f6d99ad61e44011a", func := "loop.example/icecores/laws.FnMeanParts", spec := "fnMeanParts", unfollowed := true, recurses := true, apart := false, narrowed := true }
def FnMeanPartsUptoSaid : Prop := fnMeanPartsUptoRow.holds Try.pinned (OpenSpec.upto fnMeanPartsSpec)

/-- 'laws.FnExactRecordValid', WHERE WHAT IT READS IS OF BULK AT MOST 1048576: true; the input reads as it did. -/
def fnExactRecordValidUptoRow : OpenClaim := { program := "ytkcbgeldnibjcab", sum := "bbf5560d89c3dd4f1321ffd72715b83ebcf969b218139c37f6d99ad61e44011a", func := "loop.example/icecores/laws.FnExactRecordValid", spec := "fnExactRecordValid", apart := false, narrowed := true }
def FnExactRecordValidUptoSaid : Prop := fnExactRecordValidUptoRow.holds Try.pinned (OpenSpec.upto fnExactRecordValidSpec)

/-- 'laws.FnExactRecordTotal', WHERE WHAT IT READS IS OF BULK AT MOST 1048576: true; the input reads as it did. -/
def fnExactRecordTotalUptoRow : OpenClaim := { program := "ytkcbgeldnibjcab", sum := "bbf5560d89c3dd4f1321ffd72715b83ebcf969b218139c37f6d99ad61e44011a", func := "loop.example/icecores/laws.FnExactRecordTotal", spec := "fnExactRecordTotal", apart := false, narrowed := true }
def FnExactRecordTotalUptoSaid : Prop := fnExactRecordTotalUptoRow.holds Try.pinned (OpenSpec.upto fnExactRecordTotalSpec)

end Rows
end Go.Proofs.Ytkcbgeldnibjcab
