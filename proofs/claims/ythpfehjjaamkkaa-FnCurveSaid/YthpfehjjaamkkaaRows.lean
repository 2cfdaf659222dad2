/-
  No cell of these rows narrows 'for every input' (looked for: loops, veiled, ifaces, maps, wideKeys, modest, calm, conditions, laid).
  DERIVED. THE GIVEN ROWS OF THIS SEAT. 9 by the template 'for every input the law returns true; each argument reads behind the call as it read before'; 0 by the template 'total and deterministic' (their statements: YthpfehjjaamkkaaTotals.lean).
  GIVEN WITH THE SEED: the statements are not yours to turn. If you find one false, say at which input.
  Laid BY PROGRAM, IN A SANDBOX (cutbox-rows.mjs): the forced cells as the released guide's own fill.sh prints them over the translation 5f37bad988eb43fb… (all of the seat's roots in one cut). By AI agents, Wed Nov 11 2026. No macro, syntax, notation, axiom, sorry.
-/
import Derived.Test.YthpfehjjaamkkaaChecked
import GoSem.Claim
import GoSem.ClaimJoined
import GoSem.ClaimMapViews
import Derived.JoinedTies
import Derived.KernelRfl
namespace Go.Proofs.Ythpfehjjaamkkaa
/- THE CELL 'sum', in the pinned program and in every row, IS THE sha256 OF THE DUMP (.gsa) THAT YthpfehjjaamkkaaProg.lean LOADS. Nothing in Lean hashes anything: it is a label: what it is worth is what the hold of that sum in a sandbox is worth. -/
noncomputable def Try.pinned : Pinned := { name := "ythpfehjjaamkkaa", sum := "5f37bad988eb43fbb04e630ab192b15ff7abc19c3e6424715d5a94d9ad170662", checked := Try.checked }
namespace Rows
def none {H : Type} : Left H := { results := [], args := [] }

/-- 'laws.FnCurve': WHATEVER THE INPUT: true; the input reads as it did. -/
def fnCurveSpec : ChangeSpec := { name := "fnCurve", fn := fun _ => fun
  | [d1, d2] => { results := [.lit (.bool true)], args := [d1, d2] }
  | _ => none }
def fnCurveRow : OpenClaim := { program := "ythpfehjjaamkkaa", sum := "5f37bad988eb43fbb04e630ab192b15ff7abc19c3e6424715d5a94d9ad170662", func := "loop.example/icecores/laws.FnCurve", spec := "fnCurve", apart := false }
def FnCurveSaid : Prop := fnCurveRow.holds Try.pinned (OpenSpec.ofChange fnCurveSpec)

/-- ITS FALSE NEIGHBOUR: 'it returns false'. Refute it at one input. -/
def fnCurveWrong : ChangeSpec := { name := "fnCurve", fn := fun _ => fun
  | [d1, d2] => { results := [.lit (.bool false)], args := [d1, d2] }
  | _ => none }
def FnCurveWrongFalsely : Prop := fnCurveRow.holds Try.pinned (OpenSpec.ofChange fnCurveWrong)

/-- 'laws.FnAtKnots': WHATEVER THE INPUT: true; the input reads as it did. -/
def fnAtKnotsSpec : ChangeSpec := { name := "fnAtKnots", fn := fun _ => fun
  | [d] => { results := [.lit (.bool true)], args := [d] }
  | _ => none }
def fnAtKnotsRow : OpenClaim := { program := "ythpfehjjaamkkaa", sum := "5f37bad988eb43fbb04e630ab192b15ff7abc19c3e6424715d5a94d9ad170662", func := "loop.example/icecores/laws.FnAtKnots", spec := "fnAtKnots", unfollowed := true, recurses := true, apart := false }
def FnAtKnotsSaid : Prop := fnAtKnotsRow.holds Try.pinned (OpenSpec.ofChange fnAtKnotsSpec)

/-- ITS FALSE NEIGHBOUR: 'it returns false'. Refute it at one input. -/
def fnAtKnotsWrong : ChangeSpec := { name := "fnAtKnots", fn := fun _ => fun
  | [d] => { results := [.lit (.bool false)], args := [d] }
  | _ => none }
def FnAtKnotsWrongFalsely : Prop := fnAtKnotsRow.holds Try.pinned (OpenSpec.ofChange fnAtKnotsWrong)

/-- 'laws.FnAtRises': WHATEVER THE INPUT: true; the input reads as it did. -/
def fnAtRisesSpec : ChangeSpec := { name := "fnAtRises", fn := fun _ => fun
  | [d] => { results := [.lit (.bool true)], args := [d] }
  | _ => none }
def fnAtRisesRow : OpenClaim := { program := "ythpfehjjaamkkaa", sum := "5f37bad988eb43fbb04e630ab192b15ff7abc19c3e6424715d5a94d9ad170662", func := "loop.example/icecores/laws.FnAtRises", spec := "fnAtRises", unfollowed := true, recurses := true, apart := false }
def FnAtRisesSaid : Prop := fnAtRisesRow.holds Try.pinned (OpenSpec.ofChange fnAtRisesSpec)

/-- ITS FALSE NEIGHBOUR: 'it returns false'. Refute it at one input. -/
def fnAtRisesWrong : ChangeSpec := { name := "fnAtRises", fn := fun _ => fun
  | [d] => { results := [.lit (.bool false)], args := [d] }
  | _ => none }
def FnAtRisesWrongFalsely : Prop := fnAtRisesRow.holds Try.pinned (OpenSpec.ofChange fnAtRisesWrong)

/-- 'laws.FnAtSlope': WHATEVER THE INPUT: true; the input reads as it did. -/
def fnAtSlopeSpec : ChangeSpec := { name := "fnAtSlope", fn := fun _ => fun
  | [d] => { results := [.lit (.bool true)], args := [d] }
  | _ => none }
def fnAtSlopeRow : OpenClaim := { program := "ythpfehjjaamkkaa", sum := "5f37bad988eb43fbb04e630ab192b15ff7abc19c3e6424715d5a94d9ad170662", func := "loop.example/icecores/laws.FnAtSlope", spec := "fnAtSlope", unfollowed := true, recurses := true, apart := false }
def FnAtSlopeSaid : Prop := fnAtSlopeRow.holds Try.pinned (OpenSpec.ofChange fnAtSlopeSpec)

/-- ITS FALSE NEIGHBOUR: 'it returns false'. Refute it at one input. -/
def fnAtSlopeWrong : ChangeSpec := { name := "fnAtSlope", fn := fun _ => fun
  | [d] => { results := [.lit (.bool false)], args := [d] }
  | _ => none }
def FnAtSlopeWrongFalsely : Prop := fnAtSlopeRow.holds Try.pinned (OpenSpec.ofChange fnAtSlopeWrong)

/-- 'laws.FnCurveTurn': WHATEVER THE INPUT: true; the input reads as it did. -/
def fnCurveTurnSpec : ChangeSpec := { name := "fnCurveTurn", fn := fun _ => fun
  | [d] => { results := [.lit (.bool true)], args := [d] }
  | _ => none }
def fnCurveTurnRow : OpenClaim := { program := "ythpfehjjaamkkaa", sum := "5f37bad988eb43fbb04e630ab192b15ff7abc19c3e6424715d5a94d9ad170662", func := "loop.example/icecores/laws.FnCurveTurn", spec := "fnCurveTurn", apart := false }
def FnCurveTurnSaid : Prop := fnCurveTurnRow.holds Try.pinned (OpenSpec.ofChange fnCurveTurnSpec)

/-- ITS FALSE NEIGHBOUR: 'it returns false'. Refute it at one input. -/
def fnCurveTurnWrong : ChangeSpec := { name := "fnCurveTurn", fn := fun _ => fun
  | [d] => { results := [.lit (.bool false)], args := [d] }
  | _ => none }
def FnCurveTurnWrongFalsely : Prop := fnCurveTurnRow.holds Try.pinned (OpenSpec.ofChange fnCurveTurnWrong)

/-- 'laws.FnCurveTurnThen': WHATEVER THE INPUT: true; the input reads as it did. -/
def fnCurveTurnThenSpec : ChangeSpec := { name := "fnCurveTurnThen", fn := fun _ => fun
  | [d1, d2] => { results := [.lit (.bool true)], args := [d1, d2] }
  | _ => none }
def fnCurveTurnThenRow : OpenClaim := { program := "ythpfehjjaamkkaa", sum := "5f37bad988eb43fbb04e630ab192b15ff7abc19c3e6424715d5a94d9ad170662", func := "loop.example/icecores/laws.FnCurveTurnThen", spec := "fnCurveTurnThen", unfollowed := true, recurses := true, apart := false }
def FnCurveTurnThenSaid : Prop := fnCurveTurnThenRow.holds Try.pinned (OpenSpec.ofChange fnCurveTurnThenSpec)

/-- ITS FALSE NEIGHBOUR: 'it returns false'. Refute it at one input. -/
def fnCurveTurnThenWrong : ChangeSpec := { name := "fnCurveTurnThen", fn := fun _ => fun
  | [d1, d2] => { results := [.lit (.bool false)], args := [d1, d2] }
  | _ => none }
def FnCurveTurnThenWrongFalsely : Prop := fnCurveTurnThenRow.holds Try.pinned (OpenSpec.ofChange fnCurveTurnThenWrong)

/-- 'laws.FnThen': WHATEVER THE INPUT: true; the input reads as it did. -/
def fnThenSpec : ChangeSpec := { name := "fnThen", fn := fun _ => fun
  | [d] => { results := [.lit (.bool true)], args := [d] }
  | _ => none }
def fnThenRow : OpenClaim := { program := "ythpfehjjaamkkaa", sum := "5f37bad988eb43fbb04e630ab192b15ff7abc19c3e6424715d5a94d9ad170662", func := "loop.example/icecores/laws.FnThen", spec := "fnThen", unfollowed := true, recurses := true, apart := false }
def FnThenSaid : Prop := fnThenRow.holds Try.pinned (OpenSpec.ofChange fnThenSpec)

/-- ITS FALSE NEIGHBOUR: 'it returns false'. Refute it at one input. -/
def fnThenWrong : ChangeSpec := { name := "fnThen", fn := fun _ => fun
  | [d] => { results := [.lit (.bool false)], args := [d] }
  | _ => none }
def FnThenWrongFalsely : Prop := fnThenRow.holds Try.pinned (OpenSpec.ofChange fnThenWrong)

/-- 'laws.FnThenLine': WHATEVER THE INPUT: true; the input reads as it did. -/
def fnThenLineSpec : ChangeSpec := { name := "fnThenLine", fn := fun _ => fun
  | [d] => { results := [.lit (.bool true)], args := [d] }
  | _ => none }
def fnThenLineRow : OpenClaim := { program := "ythpfehjjaamkkaa", sum := "5f37bad988eb43fbb04e630ab192b15ff7abc19c3e6424715d5a94d9ad170662", func := "loop.example/icecores/laws.FnThenLine", spec := "fnThenLine", unfollowed := true, recurses := true, apart := false }
def FnThenLineSaid : Prop := fnThenLineRow.holds Try.pinned (OpenSpec.ofChange fnThenLineSpec)

/-- ITS FALSE NEIGHBOUR: 'it returns false'. Refute it at one input. -/
def fnThenLineWrong : ChangeSpec := { name := "fnThenLine", fn := fun _ => fun
  | [d] => { results := [.lit (.bool false)], args := [d] }
  | _ => none }
def FnThenLineWrongFalsely : Prop := fnThenLineRow.holds Try.pinned (OpenSpec.ofChange fnThenLineWrong)

/-- 'laws.FnThenRises': WHATEVER THE INPUT: true; the input reads as it did. -/
def fnThenRisesSpec : ChangeSpec := { name := "fnThenRises", fn := fun _ => fun
  | [d] => { results := [.lit (.bool true)], args := [d] }
  | _ => none }
def fnThenRisesRow : OpenClaim := { program := "ythpfehjjaamkkaa", sum := "5f37bad988eb43fbb04e630ab192b15ff7abc19c3e6424715d5a94d9ad170662", func := "loop.example/icecores/laws.FnThenRises", spec := "fnThenRises", unfollowed := true, recurses := true, apart := false }
def FnThenRisesSaid : Prop := fnThenRisesRow.holds Try.pinned (OpenSpec.ofChange fnThenRisesSpec)

/-- ITS FALSE NEIGHBOUR: 'it returns false'. Refute it at one input. -/
def fnThenRisesWrong : ChangeSpec := { name := "fnThenRises", fn := fun _ => fun
  | [d] => { results := [.lit (.bool false)], args := [d] }
  | _ => none }
def FnThenRisesWrongFalsely : Prop := fnThenRisesRow.holds Try.pinned (OpenSpec.ofChange fnThenRisesWrong)

/- THE SECOND FORM. 'bulk': how many values and letters a reading holds, each counted each time it is reached (what is shared counts as often as it is met; a slice's spare places count too). A statement '..UptoSaid' is the law's where the arguments, and the package variables that the reading takes, are together of bulk at most 1048576: NARROWER than '..Said'. Prove '..Said' where nothing that the law and all that it calls make is longer than what came in: it says more and counts as full. Else prove '..UptoSaid'. A law counts once. -/
mutual
def uptoBulk {H : Type} : DataW H → Nat
  | .lit (.string bytes) => bytes.length + 1
  | .lit _ => 1
  | .nil => 1
  | .ptr d => uptoBulk d + 1
  | .slice elems spare => uptoBulkAll elems + uptoBulkAll spare + 1
  | .agg parts => uptoBulkAll parts + 1
  | .iface _ d => uptoBulk d + 1
  | .map entries => uptoBulkEntries entries + 1
  | .held _ => 1
def uptoBulkAll {H : Type} : List (DataW H) → Nat
  | [] => 0
  | d :: r => uptoBulk d + uptoBulkAll r
def uptoBulkEntries {H : Type} : List (Lit × DataW H) → Nat
  | [] => 0
  | x :: r => uptoBulkEntry x + uptoBulkEntries r
def uptoBulkEntry {H : Type} : Lit × DataW H → Nat
  | (.string bytes, d) => bytes.length + uptoBulk d + 1
  | (_, d) => uptoBulk d + 1
 end
def uptoSmall : (H : Type) → List (DataW H) → Bool := fun _ ds => decide (uptoBulkAll ds ≤ 1048576)
def OpenSpec.upto (s : _root_.Go.ChangeSpec) : _root_.Go.OpenSpec := { _root_.Go.OpenSpec.ofChange s with cond := some uptoSmall }

/-- 'laws.FnCurve', WHERE WHAT IT READS IS OF BULK AT MOST 1048576: true; the input reads as it did. -/
def fnCurveUptoRow : OpenClaim := { program := "ythpfehjjaamkkaa", sum := "5f37bad988eb43fbb04e630ab192b15ff7abc19c3e6424715d5a94d9ad170662", func := "loop.example/icecores/laws.FnCurve", spec := "fnCurve", apart := false, narrowed := true }
def FnCurveUptoSaid : Prop := fnCurveUptoRow.holds Try.pinned (OpenSpec.upto fnCurveSpec)

/-- 'laws.FnAtKnots', WHERE WHAT IT READS IS OF BULK AT MOST 1048576: true; the input reads as it did. -/
def fnAtKnotsUptoRow : OpenClaim := { program := "ythpfehjjaamkkaa", sum := "5f37bad988eb43fbb04e630ab192b15ff7abc19c3e6424715d5a94d9ad170662", func := "loop.example/icecores/laws.FnAtKnots", spec := "fnAtKnots", unfollowed := true, recurses := true, apart := false, narrowed := true }
def FnAtKnotsUptoSaid : Prop := fnAtKnotsUptoRow.holds Try.pinned (OpenSpec.upto fnAtKnotsSpec)

/-- 'laws.FnAtRises', WHERE WHAT IT READS IS OF BULK AT MOST 1048576: true; the input reads as it did. -/
def fnAtRisesUptoRow : OpenClaim := { program := "ythpfehjjaamkkaa", sum := "5f37bad988eb43fbb04e630ab192b15ff7abc19c3e6424715d5a94d9ad170662", func := "loop.example/icecores/laws.FnAtRises", spec := "fnAtRises", unfollowed := true, recurses := true, apart := false, narrowed := true }
def FnAtRisesUptoSaid : Prop := fnAtRisesUptoRow.holds Try.pinned (OpenSpec.upto fnAtRisesSpec)

/-- 'laws.FnAtSlope', WHERE WHAT IT READS IS OF BULK AT MOST 1048576: true; the input reads as it did. -/
def fnAtSlopeUptoRow : OpenClaim := { program := "ythpfehjjaamkkaa", sum := "5f37bad988eb43fbb04e630ab192b15ff7abc19c3e6424715d5a94d9ad170662", func := "loop.example/icecores/laws.FnAtSlope", spec := "fnAtSlope", unfollowed := true, recurses := true, apart := false, narrowed := true }
def FnAtSlopeUptoSaid : Prop := fnAtSlopeUptoRow.holds Try.pinned (OpenSpec.upto fnAtSlopeSpec)

/-- 'laws.FnCurveTurn', WHERE WHAT IT READS IS OF BULK AT MOST 1048576: true; the input reads as it did. -/
def fnCurveTurnUptoRow : OpenClaim := { program := "ythpfehjjaamkkaa", sum := "5f37bad988eb43fbb04e630ab192b15ff7abc19c3e6424715d5a94d9ad170662", func := "loop.example/icecores/laws.FnCurveTurn", spec := "fnCurveTurn", apart := false, narrowed := true }
def FnCurveTurnUptoSaid : Prop := fnCurveTurnUptoRow.holds Try.pinned (OpenSpec.upto fnCurveTurnSpec)

/-- 'laws.FnCurveTurnThen', WHERE WHAT IT READS IS OF BULK AT MOST 1048576: true; the input reads as it did. -/
def fnCurveTurnThenUptoRow : OpenClaim := { program := "ythpfehjjaamkkaa", sum := "5f37bad988eb43fbb04e630ab192b15ff7abc19c3e6424715d5a94d9ad170662", func := "loop.example/icecores/laws.FnCurveTurnThen", spec := "fnCurveTurnThen", unfollowed := true, recurses := true, apart := false, narrowed := true }
def FnCurveTurnThenUptoSaid : Prop := fnCurveTurnThenUptoRow.holds Try.pinned (OpenSpec.upto fnCurveTurnThenSpec)

/-- 'laws.FnThen', WHERE WHAT IT READS IS OF BULK AT MOST 1048576: true; the input reads as it did. -/
def fnThenUptoRow : OpenClaim := { program := "ythpfehjjaamkkaa", sum := "5f37bad988eb43fbb04e630ab192b15ff7abc19c3e6424715d5a94d9ad170662", func := "loop.example/icecores/laws.FnThen", spec := "fnThen", unfollowed := true, recurses := true, apart := false, narrowed := true }
def FnThenUptoSaid : Prop := fnThenUptoRow.holds Try.pinned (OpenSpec.upto fnThenSpec)

/-- 'laws.FnThenLine', WHERE WHAT IT READS IS OF BULK AT MOST 1048576: true; the input reads as it did. -/
def fnThenLineUptoRow : OpenClaim := { program := "ythpfehjjaamkkaa", sum := "5f37bad988eb43fbb04e630ab192b15ff7abc19c3e6424715d5a94d9ad170662", func := "loop.example/icecores/laws.FnThenLine", spec := "fnThenLine", unfollowed := true, recurses := true, apart := false, narrowed := true }
def FnThenLineUptoSaid : Prop := fnThenLineUptoRow.holds Try.pinned (OpenSpec.upto fnThenLineSpec)

/-- 'laws.FnThenRises', WHERE WHAT IT READS IS OF BULK AT MOST 1048576: true; the input reads as it did. -/
def fnThenRisesUptoRow : OpenClaim := { program := "ythpfehjjaamkkaa", sum := "5f37bad988eb43fbb04e630ab192b15ff7abc19c3e6424715d5a94d9ad170662", func := "loop.example/icecores/laws.FnThenRises", spec := "fnThenRises", unfollowed := true, recurses := true, apart := false, narrowed := true }
def FnThenRisesUptoSaid : Prop := fnThenRisesUptoRow.holds Try.pinned (OpenSpec.upto fnThenRisesSpec)

end Rows
end Go.Proofs.Ythpfehjjaamkkaa
