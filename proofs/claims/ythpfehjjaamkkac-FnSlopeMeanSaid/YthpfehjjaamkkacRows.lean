/-
  No cell of these rows narrows 'for every input' (looked for: loops, veiled, ifaces, maps, wideKeys, modest, calm, conditions, laid).
  DERIVED. THE GIVEN ROWS OF THIS SEAT. 9 by the template 'for every input the law returns true; each argument reads behind the call as it read before'; 0 by the template 'total and deterministic' (their statements: YthpfehjjaamkkacTotals.lean).
  GIVEN WITH THE SEED: the statements are not yours to turn. If you find one false, say at which input.
  Laid BY PROGRAM, IN A SANDBOX (cutbox-rows.mjs): the forced cells as the released guide's own fill.sh prints them over the translation 12cad6df6a6e277b… (all of the seat's roots in one cut). By AI agents, Wed Nov 11 2026. No macro, syntax, notation, axiom, sorry.
-/
import Derived.Test.YthpfehjjaamkkacChecked
import GoSem.Claim
import GoSem.ClaimJoined
import GoSem.ClaimMapViews
import Derived.JoinedTies
import Derived.KernelRfl
namespace Go.Proofs.Ythpfehjjaamkkac
/- THE CELL 'sum', in the pinned program and in every row, IS THE sha256 OF THE DUMP (.gsa) THAT YthpfehjjaamkkacProg.lean LOADS. Nothing in Lean hashes anything: it is a label: what it is worth is what the hold of that sum in a sandbox is worth. -/
noncomputable def Try.pinned : Pinned := { name := "ythpfehjjaamkkac", sum := "12cad6df6a6e277b99f4c8713397476e0b248cf1e2773c971fb0bf465e698f25", checked := Try.checked }
namespace Rows
def none {H : Type} : Left H := { results := [], args := [] }

/-- 'laws.FnLeanAdd': WHATEVER THE INPUT: true; the input reads as it did. -/
def fnLeanAddSpec : ChangeSpec := { name := "fnLeanAdd", fn := fun _ => fun
  | [d] => { results := [.lit (.bool true)], args := [d] }
  | _ => none }
def fnLeanAddRow : OpenClaim := { program := "ythpfehjjaamkkac", sum := "12cad6df6a6e277b99f4c8713397476e0b248cf1e2773c971fb0bf465e698f25", func := "loop.example/icecores/laws.FnLeanAdd", spec := "fnLeanAdd", unfollowed := true, recurses := true, apart := false }
def FnLeanAddSaid : Prop := fnLeanAddRow.holds Try.pinned (OpenSpec.ofChange fnLeanAddSpec)

/-- ITS FALSE NEIGHBOUR: 'it returns false'. Refute it at one input. -/
def fnLeanAddWrong : ChangeSpec := { name := "fnLeanAdd", fn := fun _ => fun
  | [d] => { results := [.lit (.bool false)], args := [d] }
  | _ => none }
def FnLeanAddWrongFalsely : Prop := fnLeanAddRow.holds Try.pinned (OpenSpec.ofChange fnLeanAddWrong)

/-- 'laws.FnSlopeMean': WHATEVER THE INPUT: true; the input reads as it did. -/
def fnSlopeMeanSpec : ChangeSpec := { name := "fnSlopeMean", fn := fun _ => fun
  | [d] => { results := [.lit (.bool true)], args := [d] }
  | _ => none }
def fnSlopeMeanRow : OpenClaim := { program := "ythpfehjjaamkkac", sum := "12cad6df6a6e277b99f4c8713397476e0b248cf1e2773c971fb0bf465e698f25", func := "loop.example/icecores/laws.FnSlopeMean", spec := "fnSlopeMean", unfollowed := true, recurses := true, apart := false }
def FnSlopeMeanSaid : Prop := fnSlopeMeanRow.holds Try.pinned (OpenSpec.ofChange fnSlopeMeanSpec)

/-- ITS FALSE NEIGHBOUR: 'it returns false'. Refute it at one input. -/
def fnSlopeMeanWrong : ChangeSpec := { name := "fnSlopeMean", fn := fun _ => fun
  | [d] => { results := [.lit (.bool false)], args := [d] }
  | _ => none }
def FnSlopeMeanWrongFalsely : Prop := fnSlopeMeanRow.holds Try.pinned (OpenSpec.ofChange fnSlopeMeanWrong)

/-- 'laws.FnAtEnds': WHATEVER THE INPUT: true; the input reads as it did. -/
def fnAtEndsSpec : ChangeSpec := { name := "fnAtEnds", fn := fun _ => fun
  | [d] => { results := [.lit (.bool true)], args := [d] }
  | _ => none }
def fnAtEndsRow : OpenClaim := { program := "ythpfehjjaamkkac", sum := "12cad6df6a6e277b99f4c8713397476e0b248cf1e2773c971fb0bf465e698f25", func := "loop.example/icecores/laws.FnAtEnds", spec := "fnAtEnds", unfollowed := true, recurses := true, apart := false }
def FnAtEndsSaid : Prop := fnAtEndsRow.holds Try.pinned (OpenSpec.ofChange fnAtEndsSpec)

/-- ITS FALSE NEIGHBOUR: 'it returns false'. Refute it at one input. -/
def fnAtEndsWrong : ChangeSpec := { name := "fnAtEnds", fn := fun _ => fun
  | [d] => { results := [.lit (.bool false)], args := [d] }
  | _ => none }
def FnAtEndsWrongFalsely : Prop := fnAtEndsRow.holds Try.pinned (OpenSpec.ofChange fnAtEndsWrong)

/-- 'laws.FnExactCurveValid': WHATEVER THE INPUT: true; the input reads as it did. -/
def fnExactCurveValidSpec : ChangeSpec := { name := "fnExactCurveValid", fn := fun _ => fun
  | [d] => { results := [.lit (.bool true)], args := [d] }
  | _ => none }
def fnExactCurveValidRow : OpenClaim := { program := "ythpfehjjaamkkac", sum := "12cad6df6a6e277b99f4c8713397476e0b248cf1e2773c971fb0bf465e698f25", func := "loop.example/icecores/laws.FnExactCurveValid", spec := "fnExactCurveValid", apart := false }
def FnExactCurveValidSaid : Prop := fnExactCurveValidRow.holds Try.pinned (OpenSpec.ofChange fnExactCurveValidSpec)

/-- ITS FALSE NEIGHBOUR: 'it returns false'. Refute it at one input. -/
def fnExactCurveValidWrong : ChangeSpec := { name := "fnExactCurveValid", fn := fun _ => fun
  | [d] => { results := [.lit (.bool false)], args := [d] }
  | _ => none }
def FnExactCurveValidWrongFalsely : Prop := fnExactCurveValidRow.holds Try.pinned (OpenSpec.ofChange fnExactCurveValidWrong)

/-- 'laws.FnExactCurveAt': WHATEVER THE INPUT: true; the input reads as it did. -/
def fnExactCurveAtSpec : ChangeSpec := { name := "fnExactCurveAt", fn := fun _ => fun
  | [d1, d2] => { results := [.lit (.bool true)], args := [d1, d2] }
  | _ => none }
def fnExactCurveAtRow : OpenClaim := { program := "ythpfehjjaamkkac", sum := "12cad6df6a6e277b99f4c8713397476e0b248cf1e2773c971fb0bf465e698f25", func := "loop.example/icecores/laws.FnExactCurveAt", spec := "fnExactCurveAt", unfollowed := true, recurses := true, apart := false }
def FnExactCurveAtSaid : Prop := fnExactCurveAtRow.holds Try.pinned (OpenSpec.ofChange fnExactCurveAtSpec)

/-- ITS FALSE NEIGHBOUR: 'it returns false'. Refute it at one input. -/
def fnExactCurveAtWrong : ChangeSpec := { name := "fnExactCurveAt", fn := fun _ => fun
  | [d1, d2] => { results := [.lit (.bool false)], args := [d1, d2] }
  | _ => none }
def FnExactCurveAtWrongFalsely : Prop := fnExactCurveAtRow.holds Try.pinned (OpenSpec.ofChange fnExactCurveAtWrong)

/-- 'laws.FnExactCurveTurn': WHATEVER THE INPUT: true; the input reads as it did. -/
def fnExactCurveTurnSpec : ChangeSpec := { name := "fnExactCurveTurn", fn := fun _ => fun
  | [d] => { results := [.lit (.bool true)], args := [d] }
  | _ => none }
def fnExactCurveTurnRow : OpenClaim := { program := "ythpfehjjaamkkac", sum := "12cad6df6a6e277b99f4c8713397476e0b248cf1e2773c971fb0bf465e698f25", func := "loop.example/icecores/laws.FnExactCurveTurn", spec := "fnExactCurveTurn", apart := false }
def FnExactCurveTurnSaid : Prop := fnExactCurveTurnRow.holds Try.pinned (OpenSpec.ofChange fnExactCurveTurnSpec)

/-- ITS FALSE NEIGHBOUR: 'it returns false'. Refute it at one input. -/
def fnExactCurveTurnWrong : ChangeSpec := { name := "fnExactCurveTurn", fn := fun _ => fun
  | [d] => { results := [.lit (.bool false)], args := [d] }
  | _ => none }
def FnExactCurveTurnWrongFalsely : Prop := fnExactCurveTurnRow.holds Try.pinned (OpenSpec.ofChange fnExactCurveTurnWrong)

/-- 'laws.FnExactCurveThen': WHATEVER THE INPUT: true; the input reads as it did. -/
def fnExactCurveThenSpec : ChangeSpec := { name := "fnExactCurveThen", fn := fun _ => fun
  | [d1, d2, d3] => { results := [.lit (.bool true)], args := [d1, d2, d3] }
  | _ => none }
def fnExactCurveThenRow : OpenClaim := { program := "ythpfehjjaamkkac", sum := "12cad6df6a6e277b99f4c8713397476e0b248cf1e2773c971fb0bf465e698f25", func := "loop.example/icecores/laws.FnExactCurveThen", spec := "fnExactCurveThen", unfollowed := true, recurses := true, apart := false }
def FnExactCurveThenSaid : Prop := fnExactCurveThenRow.holds Try.pinned (OpenSpec.ofChange fnExactCurveThenSpec)

/-- ITS FALSE NEIGHBOUR: 'it returns false'. Refute it at one input. -/
def fnExactCurveThenWrong : ChangeSpec := { name := "fnExactCurveThen", fn := fun _ => fun
  | [d1, d2, d3] => { results := [.lit (.bool false)], args := [d1, d2, d3] }
  | _ => none }
def FnExactCurveThenWrongFalsely : Prop := fnExactCurveThenRow.holds Try.pinned (OpenSpec.ofChange fnExactCurveThenWrong)

/-- 'laws.FnExactCurveAdd': WHATEVER THE INPUT: true; the input reads as it did. -/
def fnExactCurveAddSpec : ChangeSpec := { name := "fnExactCurveAdd", fn := fun _ => fun
  | [d1, d2] => { results := [.lit (.bool true)], args := [d1, d2] }
  | _ => none }
def fnExactCurveAddRow : OpenClaim := { program := "ythpfehjjaamkkac", sum := "12cad6df6a6e277b99f4c8713397476e0b248cf1e2773c971fb0bf465e698f25", func := "loop.example/icecores/laws.FnExactCurveAdd", spec := "fnExactCurveAdd", unfollowed := true, recurses := true, apart := false }
def FnExactCurveAddSaid : Prop := fnExactCurveAddRow.holds Try.pinned (OpenSpec.ofChange fnExactCurveAddSpec)

/-- ITS FALSE NEIGHBOUR: 'it returns false'. Refute it at one input. -/
def fnExactCurveAddWrong : ChangeSpec := { name := "fnExactCurveAdd", fn := fun _ => fun
  | [d1, d2] => { results := [.lit (.bool false)], args := [d1, d2] }
  | _ => none }
def FnExactCurveAddWrongFalsely : Prop := fnExactCurveAddRow.holds Try.pinned (OpenSpec.ofChange fnExactCurveAddWrong)

/-- 'laws.FnExactCurveLean': WHATEVER THE INPUT: true; the input reads as it did. -/
def fnExactCurveLeanSpec : ChangeSpec := { name := "fnExactCurveLean", fn := fun _ => fun
  | [d] => { results := [.lit (.bool true)], args := [d] }
  | _ => none }
def fnExactCurveLeanRow : OpenClaim := { program := "ythpfehjjaamkkac", sum := "12cad6df6a6e277b99f4c8713397476e0b248cf1e2773c971fb0bf465e698f25", func := "loop.example/icecores/laws.FnExactCurveLean", spec := "fnExactCurveLean", unfollowed := true, recurses := true, apart := false }
def FnExactCurveLeanSaid : Prop := fnExactCurveLeanRow.holds Try.pinned (OpenSpec.ofChange fnExactCurveLeanSpec)

/-- ITS FALSE NEIGHBOUR: 'it returns false'. Refute it at one input. -/
def fnExactCurveLeanWrong : ChangeSpec := { name := "fnExactCurveLean", fn := fun _ => fun
  | [d] => { results := [.lit (.bool false)], args := [d] }
  | _ => none }
def FnExactCurveLeanWrongFalsely : Prop := fnExactCurveLeanRow.holds Try.pinned (OpenSpec.ofChange fnExactCurveLeanWrong)

/- THE SECOND FORM. 'bulk': how many values and letters a reading holds, each counted each time it is reached (what is shared counts as often as it is met; a slice's spare places count too). A statement '..UptoSaid' is the law's where the arguments, and the package variables that the reading takes, are together of bulk at most 1048576: NARROWER than '..Said'. Prove '..Said' where nothing that the law and all that it calls make is longer than what came in: it says more and counts as full. Else prove '..UptoSaid'. A law counts once. -/
mutual
def uptoBulk {H : Type} : DataW H → Nat
  | .lit (.string bytes) => bytes.length + 1
  | .lit _ => 1
  | .nil => 1
  | .ptr d => uptoBulk d + 1
  | .slice elems spare => uptoBulkAll elems + uptoBulkAll spare + 1
  | .agg parts => uptoBulkAll parts + 1
  | .iface _ d => uptoBulk d + 1
  | .map entries => uptoBulkEntries entries + 1
  | .held _ => 1
def uptoBulkAll {H : Type} : List (DataW H) → Nat
  | [] => 0
  | d :: r => uptoBulk d + uptoBulkAll r
def uptoBulkEntries {H : Type} : List (Lit × DataW H) → Nat
  | [] => 0
  | x :: r => uptoBulkEntry x + uptoBulkEntries r
def uptoBulkEntry {H : Type} : Lit × DataW H → Nat
  | (.string bytes, d) => bytes.length + uptoBulk d + 1
  | (_, d) => uptoBulk d + 1
 end
def uptoSmall : (H : Type) → List (DataW H) → Bool := fun _ ds => decide (uptoBulkAll ds ≤ 1048576)
def OpenSpec.upto (s : _root_.Go.ChangeSpec) : _root_.Go.OpenSpec := { _root_.Go.OpenSpec.ofChange s with cond := some uptoSmall }

/-- 'laws.FnLeanAdd', WHERE WHAT IT READS IS OF BULK AT MOST 1048576: true; the input reads as it did. -/
def fnLeanAddUptoRow : OpenClaim := { program := "ythpfehjjaamkkac", sum := "12cad6df6a6e277b99f4c8713397476e0b248cf1e2773c971fb0bf465e698f25", func := "loop.example/icecores/laws.FnLeanAdd", spec := "fnLeanAdd", unfollowed := true, recurses := true, apart := false, narrowed := true }
def FnLeanAddUptoSaid : Prop := fnLeanAddUptoRow.holds Try.pinned (OpenSpec.upto fnLeanAddSpec)

/-- 'laws.FnSlopeMean', WHERE WHAT IT READS IS OF BULK AT MOST 1048576: true; the input reads as it did. -/
def fnSlopeMeanUptoRow : OpenClaim := { program := "ythpfehjjaamkkac", sum := "12cad6df6a6e277b99f4c8713397476e0b248cf1e2773c971fb0bf465e698f25", func := "loop.example/icecores/laws.FnSlopeMean", spec := "fnSlopeMean", unfollowed := true, recurses := true, apart := false, narrowed := true }
def FnSlopeMeanUptoSaid : Prop := fnSlopeMeanUptoRow.holds Try.pinned (OpenSpec.upto fnSlopeMeanSpec)

/-- 'laws.FnAtEnds', WHERE WHAT IT READS IS OF BULK AT MOST 1048576: true; the input reads as it did. -/
def fnAtEndsUptoRow : OpenClaim := { program := "ythpfehjjaamkkac", sum := "12cad6df6a6e277b99f4c8713397476e0b248cf1e2773c971fb0bf465e698f25", func := "loop.example/icecores/laws.FnAtEnds", spec := "fnAtEnds", unfollowed := true, recurses := true, apart := false, narrowed := true }
def FnAtEndsUptoSaid : Prop := fnAtEndsUptoRow.holds Try.pinned (OpenSpec.upto fnAtEndsSpec)

/-- 'laws.FnExactCurveValid', WHERE WHAT IT READS IS OF BULK AT MOST 1048576: true; the input reads as it did. -/
def fnExactCurveValidUptoRow : OpenClaim := { program := "ythpfehjjaamkkac", sum := "12cad6df6a6e277b99f4c8713397476e0b248cf1e2773c971fb0bf465e698f25", func := "loop.example/icecores/laws.FnExactCurveValid", spec := "fnExactCurveValid", apart := false, narrowed := true }
def FnExactCurveValidUptoSaid : Prop := fnExactCurveValidUptoRow.holds Try.pinned (OpenSpec.upto fnExactCurveValidSpec)

/-- 'laws.FnExactCurveAt', WHERE WHAT IT READS IS OF BULK AT MOST 1048576: true; the input reads as it did. -/
def fnExactCurveAtUptoRow : OpenClaim := { program := "ythpfehjjaamkkac", sum := "12cad6df6a6e277b99f4c8713397476e0b248cf1e2773c971fb0bf465e698f25", func := "loop.example/icecores/laws.FnExactCurveAt", spec := "fnExactCurveAt", unfollowed := true, recurses := true, apart := false, narrowed := true }
def FnExactCurveAtUptoSaid : Prop := fnExactCurveAtUptoRow.holds Try.pinned (OpenSpec.upto fnExactCurveAtSpec)

/-- 'laws.FnExactCurveTurn', WHERE WHAT IT READS IS OF BULK AT MOST 1048576: true; the input reads as it did. -/
def fnExactCurveTurnUptoRow : OpenClaim := { program := "ythpfehjjaamkkac", sum := "12cad6df6a6e277b99f4c8713397476e0b248cf1e2773c971fb0bf465e698f25", func := "loop.example/icecores/laws.FnExactCurveTurn", spec := "fnExactCurveTurn", apart := false, narrowed := true }
def FnExactCurveTurnUptoSaid : Prop := fnExactCurveTurnUptoRow.holds Try.pinned (OpenSpec.upto fnExactCurveTurnSpec)

/-- 'laws.FnExactCurveThen', WHERE WHAT IT READS IS OF BULK AT MOST 1048576: true; the input reads as it did. -/
def fnExactCurveThenUptoRow : OpenClaim := { program := "ythpfehjjaamkkac", sum := "12cad6df6a6e277b99f4c8713397476e0b248cf1e2773c971fb0bf465e698f25", func := "loop.example/icecores/laws.FnExactCurveThen", spec := "fnExactCurveThen", unfollowed := true, recurses := true, apart := false, narrowed := true }
def FnExactCurveThenUptoSaid : Prop := fnExactCurveThenUptoRow.holds Try.pinned (OpenSpec.upto fnExactCurveThenSpec)

/-- 'laws.FnExactCurveAdd', WHERE WHAT IT READS IS OF BULK AT MOST 1048576: true; the input reads as it did. -/
def fnExactCurveAddUptoRow : OpenClaim := { program := "ythpfehjjaamkkac", sum := "12cad6df6a6e277b99f4c8713397476e0b248cf1e2773c971fb0bf465e698f25", func := "loop.example/icecores/laws.FnExactCurveAdd", spec := "fnExactCurveAdd", unfollowed := true, recurses := true, apart := false, narrowed := true }
def FnExactCurveAddUptoSaid : Prop := fnExactCurveAddUptoRow.holds Try.pinned (OpenSpec.upto fnExactCurveAddSpec)

/-- 'laws.FnExactCurveLean', WHERE WHAT IT READS IS OF BULK AT MOST 1048576: true; the input reads as it did. -/
def fnExactCurveLeanUptoRow : OpenClaim := { program := "ythpfehjjaamkkac", sum := "12cad6df6a6e277b99f4c8713397476e0b248cf1e2773c971fb0bf465e698f25", func := "loop.example/icecores/laws.FnExactCurveLean", spec := "fnExactCurveLean", unfollowed := true, recurses := true, apart := false, narrowed := true }
def FnExactCurveLeanUptoSaid : Prop := fnExactCurveLeanUptoRow.holds Try.pinned (OpenSpec.upto fnExactCurveLeanSpec)

end Rows
end Go.Proofs.Ythpfehjjaamkkac
