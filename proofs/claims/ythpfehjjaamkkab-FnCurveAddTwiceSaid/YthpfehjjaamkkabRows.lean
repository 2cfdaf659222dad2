/-
  No cell of these rows narrows 'for every input' (looked for: loops, veiled, ifaces, maps, wideKeys, modest, calm, conditions, laid).
  DERIVED. THE GIVEN ROWS OF THIS SEAT. 9 by the template 'for every input the law returns true; each argument reads behind the call as it read before'; 0 by the template 'total and deterministic' (their statements: YthpfehjjaamkkabTotals.lean).
  GIVEN WITH THE SEED: the statements are not yours to turn. If you find one false, say at which input.
  Laid BY PROGRAM, IN A SANDBOX (cutbox-rows.mjs): the forced cells as the released guide's own fill.sh prints them over the translation 1139f1435653e009… (all of the seat's roots in one cut). By AI agents, Wed Nov 11 2026. No macro, syntax, notation, axiom, sorry.
-/
import Derived.Test.YthpfehjjaamkkabChecked
import GoSem.Claim
import GoSem.ClaimJoined
import GoSem.ClaimMapViews
import Derived.JoinedTies
import Derived.KernelRfl
namespace Go.Proofs.Ythpfehjjaamkkab
/- THE CELL 'sum', in the pinned program and in every row, IS THE sha256 OF THE DUMP (.gsa) THAT YthpfehjjaamkkabProg.lean LOADS. Nothing in Lean hashes anything: it is a label: what it is worth is what the hold of that sum in a sandbox is worth. -/
noncomputable def Try.pinned : Pinned := { name := "ythpfehjjaamkkab", sum := "1139f1435653e009a2b43836f4d8cc386e950e4ab446dffbdc32949ae12d14c7", checked := Try.checked }
namespace Rows
def none {H : Type} : Left H := { results := [], args := [] }

/-- 'laws.FnCurveAdd': WHATEVER THE INPUT: true; the input reads as it did. -/
def fnCurveAddSpec : ChangeSpec := { name := "fnCurveAdd", fn := fun _ => fun
  | [d1, d2] => { results := [.lit (.bool true)], args := [d1, d2] }
  | _ => none }
def fnCurveAddRow : OpenClaim := { program := "ythpfehjjaamkkab", sum := "1139f1435653e009a2b43836f4d8cc386e950e4ab446dffbdc32949ae12d14c7", func := "loop.example/icecores/laws.FnCurveAdd", spec := "fnCurveAdd", unfollowed := true, recurses := true, apart := false }
def FnCurveAddSaid : Prop := fnCurveAddRow.holds Try.pinned (OpenSpec.ofChange fnCurveAddSpec)

/-- ITS FALSE NEIGHBOUR: 'it returns false'. Refute it at one input. -/
def fnCurveAddWrong : ChangeSpec := { name := "fnCurveAdd", fn := fun _ => fun
  | [d1, d2] => { results := [.lit (.bool false)], args := [d1, d2] }
  | _ => none }
def FnCurveAddWrongFalsely : Prop := fnCurveAddRow.holds Try.pinned (OpenSpec.ofChange fnCurveAddWrong)

/-- 'laws.FnCurveAddTwice': WHATEVER THE INPUT: true; the input reads as it did. -/
def fnCurveAddTwiceSpec : ChangeSpec := { name := "fnCurveAddTwice", fn := fun _ => fun
  | [d] => { results := [.lit (.bool true)], args := [d] }
  | _ => none }
def fnCurveAddTwiceRow : OpenClaim := { program := "ythpfehjjaamkkab", sum := "1139f1435653e009a2b43836f4d8cc386e950e4ab446dffbdc32949ae12d14c7", func := "loop.example/icecores/laws.FnCurveAddTwice", spec := "fnCurveAddTwice", unfollowed := true, recurses := true, apart := false }
def FnCurveAddTwiceSaid : Prop := fnCurveAddTwiceRow.holds Try.pinned (OpenSpec.ofChange fnCurveAddTwiceSpec)

/-- ITS FALSE NEIGHBOUR: 'it returns false'. Refute it at one input. -/
def fnCurveAddTwiceWrong : ChangeSpec := { name := "fnCurveAddTwice", fn := fun _ => fun
  | [d] => { results := [.lit (.bool false)], args := [d] }
  | _ => none }
def FnCurveAddTwiceWrongFalsely : Prop := fnCurveAddTwiceRow.holds Try.pinned (OpenSpec.ofChange fnCurveAddTwiceWrong)

/-- 'laws.FnLean': WHATEVER THE INPUT: true; the input reads as it did. -/
def fnLeanSpec : ChangeSpec := { name := "fnLean", fn := fun _ => fun
  | [d1, d2] => { results := [.lit (.bool true)], args := [d1, d2] }
  | _ => none }
def fnLeanRow : OpenClaim := { program := "ythpfehjjaamkkab", sum := "1139f1435653e009a2b43836f4d8cc386e950e4ab446dffbdc32949ae12d14c7", func := "loop.example/icecores/laws.FnLean", spec := "fnLean", unfollowed := true, recurses := true, apart := false }
def FnLeanSaid : Prop := fnLeanRow.holds Try.pinned (OpenSpec.ofChange fnLeanSpec)

/-- ITS FALSE NEIGHBOUR: 'it returns false'. Refute it at one input. -/
def fnLeanWrong : ChangeSpec := { name := "fnLean", fn := fun _ => fun
  | [d1, d2] => { results := [.lit (.bool false)], args := [d1, d2] }
  | _ => none }
def FnLeanWrongFalsely : Prop := fnLeanRow.holds Try.pinned (OpenSpec.ofChange fnLeanWrong)

/-- 'laws.FnLeanSlopes': WHATEVER THE INPUT: true; the input reads as it did. -/
def fnLeanSlopesSpec : ChangeSpec := { name := "fnLeanSlopes", fn := fun _ => fun
  | [d] => { results := [.lit (.bool true)], args := [d] }
  | _ => none }
def fnLeanSlopesRow : OpenClaim := { program := "ythpfehjjaamkkab", sum := "1139f1435653e009a2b43836f4d8cc386e950e4ab446dffbdc32949ae12d14c7", func := "loop.example/icecores/laws.FnLeanSlopes", spec := "fnLeanSlopes", unfollowed := true, recurses := true, apart := false }
def FnLeanSlopesSaid : Prop := fnLeanSlopesRow.holds Try.pinned (OpenSpec.ofChange fnLeanSlopesSpec)

/-- ITS FALSE NEIGHBOUR: 'it returns false'. Refute it at one input. -/
def fnLeanSlopesWrong : ChangeSpec := { name := "fnLeanSlopes", fn := fun _ => fun
  | [d] => { results := [.lit (.bool false)], args := [d] }
  | _ => none }
def FnLeanSlopesWrongFalsely : Prop := fnLeanSlopesRow.holds Try.pinned (OpenSpec.ofChange fnLeanSlopesWrong)

/-- 'laws.FnLeanTurn': WHATEVER THE INPUT: true; the input reads as it did. -/
def fnLeanTurnSpec : ChangeSpec := { name := "fnLeanTurn", fn := fun _ => fun
  | [d] => { results := [.lit (.bool true)], args := [d] }
  | _ => none }
def fnLeanTurnRow : OpenClaim := { program := "ythpfehjjaamkkab", sum := "1139f1435653e009a2b43836f4d8cc386e950e4ab446dffbdc32949ae12d14c7", func := "loop.example/icecores/laws.FnLeanTurn", spec := "fnLeanTurn", unfollowed := true, recurses := true, apart := false }
def FnLeanTurnSaid : Prop := fnLeanTurnRow.holds Try.pinned (OpenSpec.ofChange fnLeanTurnSpec)

/-- ITS FALSE NEIGHBOUR: 'it returns false'. Refute it at one input. -/
def fnLeanTurnWrong : ChangeSpec := { name := "fnLeanTurn", fn := fun _ => fun
  | [d] => { results := [.lit (.bool false)], args := [d] }
  | _ => none }
def FnLeanTurnWrongFalsely : Prop := fnLeanTurnRow.holds Try.pinned (OpenSpec.ofChange fnLeanTurnWrong)

/-- 'laws.FnSlope': WHATEVER THE INPUT: true; the input reads as it did. -/
def fnSlopeSpec : ChangeSpec := { name := "fnSlope", fn := fun _ => fun
  | [d] => { results := [.lit (.bool true)], args := [d] }
  | _ => none }
def fnSlopeRow : OpenClaim := { program := "ythpfehjjaamkkab", sum := "1139f1435653e009a2b43836f4d8cc386e950e4ab446dffbdc32949ae12d14c7", func := "loop.example/icecores/laws.FnSlope", spec := "fnSlope", unfollowed := true, recurses := true, apart := false }
def FnSlopeSaid : Prop := fnSlopeRow.holds Try.pinned (OpenSpec.ofChange fnSlopeSpec)

/-- ITS FALSE NEIGHBOUR: 'it returns false'. Refute it at one input. -/
def fnSlopeWrong : ChangeSpec := { name := "fnSlope", fn := fun _ => fun
  | [d] => { results := [.lit (.bool false)], args := [d] }
  | _ => none }
def FnSlopeWrongFalsely : Prop := fnSlopeRow.holds Try.pinned (OpenSpec.ofChange fnSlopeWrong)

/-- 'laws.FnCurveAddTurn': WHATEVER THE INPUT: true; the input reads as it did. -/
def fnCurveAddTurnSpec : ChangeSpec := { name := "fnCurveAddTurn", fn := fun _ => fun
  | [d] => { results := [.lit (.bool true)], args := [d] }
  | _ => none }
def fnCurveAddTurnRow : OpenClaim := { program := "ythpfehjjaamkkab", sum := "1139f1435653e009a2b43836f4d8cc386e950e4ab446dffbdc32949ae12d14c7", func := "loop.example/icecores/laws.FnCurveAddTurn", spec := "fnCurveAddTurn", unfollowed := true, recurses := true, apart := false }
def FnCurveAddTurnSaid : Prop := fnCurveAddTurnRow.holds Try.pinned (OpenSpec.ofChange fnCurveAddTurnSpec)

/-- ITS FALSE NEIGHBOUR: 'it returns false'. Refute it at one input. -/
def fnCurveAddTurnWrong : ChangeSpec := { name := "fnCurveAddTurn", fn := fun _ => fun
  | [d] => { results := [.lit (.bool false)], args := [d] }
  | _ => none }
def FnCurveAddTurnWrongFalsely : Prop := fnCurveAddTurnRow.holds Try.pinned (OpenSpec.ofChange fnCurveAddTurnWrong)

/-- 'laws.FnThenBack': WHATEVER THE INPUT: true; the input reads as it did. -/
def fnThenBackSpec : ChangeSpec := { name := "fnThenBack", fn := fun _ => fun
  | [d] => { results := [.lit (.bool true)], args := [d] }
  | _ => none }
def fnThenBackRow : OpenClaim := { program := "ythpfehjjaamkkab", sum := "1139f1435653e009a2b43836f4d8cc386e950e4ab446dffbdc32949ae12d14c7", func := "loop.example/icecores/laws.FnThenBack", spec := "fnThenBack", unfollowed := true, recurses := true, apart := false }
def FnThenBackSaid : Prop := fnThenBackRow.holds Try.pinned (OpenSpec.ofChange fnThenBackSpec)

/-- ITS FALSE NEIGHBOUR: 'it returns false'. Refute it at one input. -/
def fnThenBackWrong : ChangeSpec := { name := "fnThenBack", fn := fun _ => fun
  | [d] => { results := [.lit (.bool false)], args := [d] }
  | _ => none }
def FnThenBackWrongFalsely : Prop := fnThenBackRow.holds Try.pinned (OpenSpec.ofChange fnThenBackWrong)

/-- 'laws.FnAtDouble': WHATEVER THE INPUT: true; the input reads as it did. -/
def fnAtDoubleSpec : ChangeSpec := { name := "fnAtDouble", fn := fun _ => fun
  | [d] => { results := [.lit (.bool true)], args := [d] }
  | _ => none }
def fnAtDoubleRow : OpenClaim := { program := "ythpfehjjaamkkab", sum := "1139f1435653e009a2b43836f4d8cc386e950e4ab446dffbdc32949ae12d14c7", func := "loop.example/icecores/laws.FnAtDouble", spec := "fnAtDouble", unfollowed := true, recurses := true, apart := false }
def FnAtDoubleSaid : Prop := fnAtDoubleRow.holds Try.pinned (OpenSpec.ofChange fnAtDoubleSpec)

/-- ITS FALSE NEIGHBOUR: 'it returns false'. Refute it at one input. -/
def fnAtDoubleWrong : ChangeSpec := { name := "fnAtDouble", fn := fun _ => fun
  | [d] => { results := [.lit (.bool false)], args := [d] }
  | _ => none }
def FnAtDoubleWrongFalsely : Prop := fnAtDoubleRow.holds Try.pinned (OpenSpec.ofChange fnAtDoubleWrong)

/- THE SECOND FORM. 'bulk': how many values and letters a reading holds, each counted each time it is reached (what is shared counts as often as it is met; a slice's spare places count too). A statement '..UptoSaid' is the law's where the arguments, and the package variables that the reading takes, are together of bulk at most 1048576: NARROWER than '..Said'. Prove '..Said' where nothing that the law and all that it calls make is longer than what came in: it says more and counts as full. Else prove '..UptoSaid'. A law counts once. -/
mutual
def uptoBulk {H : Type} : DataW H → Nat
  | .lit (.string bytes) => bytes.length + 1
  | .lit _ => 1
  | .nil => 1
  | .ptr d => uptoBulk d + 1
  | .slice elems spare => uptoBulkAll elems + uptoBulkAll spare + 1
  | .agg parts => uptoBulkAll parts + 1
  | .iface _ d => uptoBulk d + 1
  | .map entries => uptoBulkEntries entries + 1
  | .held _ => 1
def uptoBulkAll {H : Type} : List (DataW H) → Nat
  | [] => 0
  | d :: r => uptoBulk d + uptoBulkAll r
def uptoBulkEntries {H : Type} : List (Lit × DataW H) → Nat
  | [] => 0
  | x :: r => uptoBulkEntry x + uptoBulkEntries r
def uptoBulkEntry {H : Type} : Lit × DataW H → Nat
  | (.string bytes, d) => bytes.length + uptoBulk d + 1
  | (_, d) => uptoBulk d + 1
 end
def uptoSmall : (H : Type) → List (DataW H) → Bool := fun _ ds => decide (uptoBulkAll ds ≤ 1048576)
def OpenSpec.upto (s : _root_.Go.ChangeSpec) : _root_.Go.OpenSpec := { _root_.Go.OpenSpec.ofChange s with cond := some uptoSmall }

/-- 'laws.FnCurveAdd', WHERE WHAT IT READS IS OF BULK AT MOST 1048576: true; the input reads as it did. -/
def fnCurveAddUptoRow : OpenClaim := { program := "ythpfehjjaamkkab", sum := "1139f1435653e009a2b43836f4d8cc386e950e4ab446dffbdc32949ae12d14c7", func := "loop.example/icecores/laws.FnCurveAdd", spec := "fnCurveAdd", unfollowed := true, recurses := true, apart := false, narrowed := true }
def FnCurveAddUptoSaid : Prop := fnCurveAddUptoRow.holds Try.pinned (OpenSpec.upto fnCurveAddSpec)

/-- 'laws.FnCurveAddTwice', WHERE WHAT IT READS IS OF BULK AT MOST 1048576: true; the input reads as it did. -/
def fnCurveAddTwiceUptoRow : OpenClaim := { program := "ythpfehjjaamkkab", sum := "1139f1435653e009a2b43836f4d8cc386e950e4ab446dffbdc32949ae12d14c7", func := "loop.example/icecores/laws.FnCurveAddTwice", spec := "fnCurveAddTwice", unfollowed := true, recurses := true, apart := false, narrowed := true }
def FnCurveAddTwiceUptoSaid : Prop := fnCurveAddTwiceUptoRow.holds Try.pinned (OpenSpec.upto fnCurveAddTwiceSpec)

/-- 'laws.FnLean', WHERE WHAT IT READS IS OF BULK AT MOST 1048576: true; the input reads as it did. -/
def fnLeanUptoRow : OpenClaim := { program := "ythpfehjjaamkkab", sum := "1139f1435653e009a2b43836f4d8cc386e950e4ab446dffbdc32949ae12d14c7", func := "loop.example/icecores/laws.FnLean", spec := "fnLean", unfollowed := true, recurses := true, apart := false, narrowed := true }
def FnLeanUptoSaid : Prop := fnLeanUptoRow.holds Try.pinned (OpenSpec.upto fnLeanSpec)

/-- 'laws.FnLeanSlopes', WHERE WHAT IT READS IS OF BULK AT MOST 1048576: true; the input reads as it did. -/
def fnLeanSlopesUptoRow : OpenClaim := { program := "ythpfehjjaamkkab", sum := "1139f1435653e009a2b43836f4d8cc386e950e4ab446dffbdc32949ae12d14c7", func := "loop.example/icecores/laws.FnLeanSlopes", spec := "fnLeanSlopes", unfollowed := true, recurses := true, apart := false, narrowed := true }
def FnLeanSlopesUptoSaid : Prop := fnLeanSlopesUptoRow.holds Try.pinned (OpenSpec.upto fnLeanSlopesSpec)

/-- 'laws.FnLeanTurn', WHERE WHAT IT READS IS OF BULK AT MOST 1048576: true; the input reads as it did. -/
def fnLeanTurnUptoRow : OpenClaim := { program := "ythpfehjjaamkkab", sum := "1139f1435653e009a2b43836f4d8cc386e950e4ab446dffbdc32949ae12d14c7", func := "loop.example/icecores/laws.FnLeanTurn", spec := "fnLeanTurn", unfollowed := true, recurses := true, apart := false, narrowed := true }
def FnLeanTurnUptoSaid : Prop := fnLeanTurnUptoRow.holds Try.pinned (OpenSpec.upto fnLeanTurnSpec)

/-- 'laws.FnSlope', WHERE WHAT IT READS IS OF BULK AT MOST 1048576: true; the input reads as it did. -/
def fnSlopeUptoRow : OpenClaim := { program := "ythpfehjjaamkkab", sum := "1139f1435653e009a2b43836f4d8cc386e950e4ab446dffbdc32949ae12d14c7", func := "loop.example/icecores/laws.FnSlope", spec := "fnSlope", unfollowed := true, recurses := true, apart := false, narrowed := true }
def FnSlopeUptoSaid : Prop := fnSlopeUptoRow.holds Try.pinned (OpenSpec.upto fnSlopeSpec)

/-- 'laws.FnCurveAddTurn', WHERE WHAT IT READS IS OF BULK AT MOST 1048576: true; the input reads as it did. -/
def fnCurveAddTurnUptoRow : OpenClaim := { program := "ythpfehjjaamkkab", sum := "1139f1435653e009a2b43836f4d8cc386e950e4ab446dffbdc32949ae12d14c7", func := "loop.example/icecores/laws.FnCurveAddTurn", spec := "fnCurveAddTurn", unfollowed := true, recurses := true, apart := false, narrowed := true }
def FnCurveAddTurnUptoSaid : Prop := fnCurveAddTurnUptoRow.holds Try.pinned (OpenSpec.upto fnCurveAddTurnSpec)

/-- 'laws.FnThenBack', WHERE WHAT IT READS IS OF BULK AT MOST 1048576: true; the input reads as it did. -/
def fnThenBackUptoRow : OpenClaim := { program := "ythpfehjjaamkkab", sum := "1139f1435653e009a2b43836f4d8cc386e950e4ab446dffbdc32949ae12d14c7", func := "loop.example/icecores/laws.FnThenBack", spec := "fnThenBack", unfollowed := true, recurses := true, apart := false, narrowed := true }
def FnThenBackUptoSaid : Prop := fnThenBackUptoRow.holds Try.pinned (OpenSpec.upto fnThenBackSpec)

/-- 'laws.FnAtDouble', WHERE WHAT IT READS IS OF BULK AT MOST 1048576: true; the input reads as it did. -/
def fnAtDoubleUptoRow : OpenClaim := { program := "ythpfehjjaamkkab", sum := "1139f1435653e009a2b43836f4d8cc386e950e4ab446dffbdc32949ae12d14c7", func := "loop.example/icecores/laws.FnAtDouble", spec := "fnAtDouble", unfollowed := true, recurses := true, apart := false, narrowed := true }
def FnAtDoubleUptoSaid : Prop := fnAtDoubleUptoRow.holds Try.pinned (OpenSpec.upto fnAtDoubleSpec)

end Rows
end Go.Proofs.Ythpfehjjaamkkab
