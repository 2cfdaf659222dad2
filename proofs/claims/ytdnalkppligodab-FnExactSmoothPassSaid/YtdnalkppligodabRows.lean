/-
  No cell of these rows narrows 'for every input' (looked for: loops, veiled, ifaces, maps, wideKeys, modest, calm, conditions, laid).
  DERIVED. THE GIVEN ROWS OF THIS SEAT. 9 by the template 'for every input the law returns true; each argument reads behind the call as it read before'; 0 by the template 'total and deterministic' (their statements: YtdnalkppligodabTotals.lean).
  GIVEN WITH THE SEED: the statements are not yours to turn. If you find one false, say at which input.
  Laid BY PROGRAM, IN A SANDBOX (cutbox-rows.mjs): the forced cells as the released guide's own fill.sh prints them over the translation 9a7847fba9605bf8… (all of the seat's roots in one cut). By AI agents, Wed Nov 11 2026. No macro, syntax, notation, axiom, sorry.
-/
import Derived.Test.YtdnalkppligodabChecked
import GoSem.Claim
import GoSem.ClaimJoined
import GoSem.ClaimMapViews
import Derived.JoinedTies
import Derived.KernelRfl
namespace Go.Proofs.Ytdnalkppligodab
/- THE CELL 'sum', in the pinned program and in every row, IS THE sha256 OF THE DUMP (.gsa) THAT YtdnalkppligodabProg.lean LOADS. Nothing in Lean hashes anything: it is a label: what it is worth is what the hold of that sum in a sandbox is worth. -/
noncomputable def Try.pinned : Pinned := { name := "ytdnalkppligodab", sum := "9a7847fba9605bf88ec4c2fa27e40d69ed8ebb3800ef822b4e848d4edae8ba27", checked := Try.checked }
namespace Rows
def none {H : Type} : Left H := { results := [], args := [] }

/-- 'laws.FnSum': WHATEVER THE INPUT: true; the input reads as it did. -/
def fnSumSpec : ChangeSpec := { name := "fnSum", fn := fun _ => fun
  | [d] => { results := [.lit (.bool true)], args := [d] }
  | _ => none }
def fnSumRow : OpenClaim := { program := "ytdnalkppligodab", sum := "9a7847fba9605bf88ec4c2fa27e40d69ed8ebb3800ef822b4e848d4edae8ba27", func := "loop.example/icecores/laws.FnSum", spec := "fnSum", apart := false }
def FnSumSaid : Prop := fnSumRow.holds Try.pinned (OpenSpec.ofChange fnSumSpec)

/-- ITS FALSE NEIGHBOUR: 'it returns false'. Refute it at one input. -/
def fnSumWrong : ChangeSpec := { name := "fnSum", fn := fun _ => fun
  | [d] => { results := [.lit (.bool false)], args := [d] }
  | _ => none }
def FnSumWrongFalsely : Prop := fnSumRow.holds Try.pinned (OpenSpec.ofChange fnSumWrong)

/-- 'laws.FnRough': WHATEVER THE INPUT: true; the input reads as it did. -/
def fnRoughSpec : ChangeSpec := { name := "fnRough", fn := fun _ => fun
  | [d] => { results := [.lit (.bool true)], args := [d] }
  | _ => none }
def fnRoughRow : OpenClaim := { program := "ytdnalkppligodab", sum := "9a7847fba9605bf88ec4c2fa27e40d69ed8ebb3800ef822b4e848d4edae8ba27", func := "loop.example/icecores/laws.FnRough", spec := "fnRough", apart := false }
def FnRoughSaid : Prop := fnRoughRow.holds Try.pinned (OpenSpec.ofChange fnRoughSpec)

/-- ITS FALSE NEIGHBOUR: 'it returns false'. Refute it at one input. -/
def fnRoughWrong : ChangeSpec := { name := "fnRough", fn := fun _ => fun
  | [d] => { results := [.lit (.bool false)], args := [d] }
  | _ => none }
def FnRoughWrongFalsely : Prop := fnRoughRow.holds Try.pinned (OpenSpec.ofChange fnRoughWrong)

/-- 'laws.FnRange': WHATEVER THE INPUT: true; the input reads as it did. -/
def fnRangeSpec : ChangeSpec := { name := "fnRange", fn := fun _ => fun
  | [d] => { results := [.lit (.bool true)], args := [d] }
  | _ => none }
def fnRangeRow : OpenClaim := { program := "ytdnalkppligodab", sum := "9a7847fba9605bf88ec4c2fa27e40d69ed8ebb3800ef822b4e848d4edae8ba27", func := "loop.example/icecores/laws.FnRange", spec := "fnRange", apart := false }
def FnRangeSaid : Prop := fnRangeRow.holds Try.pinned (OpenSpec.ofChange fnRangeSpec)

/-- ITS FALSE NEIGHBOUR: 'it returns false'. Refute it at one input. -/
def fnRangeWrong : ChangeSpec := { name := "fnRange", fn := fun _ => fun
  | [d] => { results := [.lit (.bool false)], args := [d] }
  | _ => none }
def FnRangeWrongFalsely : Prop := fnRangeRow.holds Try.pinned (OpenSpec.ofChange fnRangeWrong)

/-- 'laws.FnPassLess': WHATEVER THE INPUT: true; the input reads as it did. -/
def fnPassLessSpec : ChangeSpec := { name := "fnPassLess", fn := fun _ => fun
  | [d1, d2] => { results := [.lit (.bool true)], args := [d1, d2] }
  | _ => none }
def fnPassLessRow : OpenClaim := { program := "ytdnalkppligodab", sum := "9a7847fba9605bf88ec4c2fa27e40d69ed8ebb3800ef822b4e848d4edae8ba27", func := "loop.example/icecores/laws.FnPassLess", spec := "fnPassLess", apart := false }
def FnPassLessSaid : Prop := fnPassLessRow.holds Try.pinned (OpenSpec.ofChange fnPassLessSpec)

/-- ITS FALSE NEIGHBOUR: 'it returns false'. Refute it at one input. -/
def fnPassLessWrong : ChangeSpec := { name := "fnPassLess", fn := fun _ => fun
  | [d1, d2] => { results := [.lit (.bool false)], args := [d1, d2] }
  | _ => none }
def FnPassLessWrongFalsely : Prop := fnPassLessRow.holds Try.pinned (OpenSpec.ofChange fnPassLessWrong)

/-- 'laws.FnManyFlat': WHATEVER THE INPUT: true; the input reads as it did. -/
def fnManyFlatSpec : ChangeSpec := { name := "fnManyFlat", fn := fun _ => fun
  | [d] => { results := [.lit (.bool true)], args := [d] }
  | _ => none }
def fnManyFlatRow : OpenClaim := { program := "ytdnalkppligodab", sum := "9a7847fba9605bf88ec4c2fa27e40d69ed8ebb3800ef822b4e848d4edae8ba27", func := "loop.example/icecores/laws.FnManyFlat", spec := "fnManyFlat", apart := false }
def FnManyFlatSaid : Prop := fnManyFlatRow.holds Try.pinned (OpenSpec.ofChange fnManyFlatSpec)

/-- ITS FALSE NEIGHBOUR: 'it returns false'. Refute it at one input. -/
def fnManyFlatWrong : ChangeSpec := { name := "fnManyFlat", fn := fun _ => fun
  | [d] => { results := [.lit (.bool false)], args := [d] }
  | _ => none }
def FnManyFlatWrongFalsely : Prop := fnManyFlatRow.holds Try.pinned (OpenSpec.ofChange fnManyFlatWrong)

/-- 'laws.FnManyAdd': WHATEVER THE INPUT: true; the input reads as it did. -/
def fnManyAddSpec : ChangeSpec := { name := "fnManyAdd", fn := fun _ => fun
  | [d] => { results := [.lit (.bool true)], args := [d] }
  | _ => none }
def fnManyAddRow : OpenClaim := { program := "ytdnalkppligodab", sum := "9a7847fba9605bf88ec4c2fa27e40d69ed8ebb3800ef822b4e848d4edae8ba27", func := "loop.example/icecores/laws.FnManyAdd", spec := "fnManyAdd", apart := false }
def FnManyAddSaid : Prop := fnManyAddRow.holds Try.pinned (OpenSpec.ofChange fnManyAddSpec)

/-- ITS FALSE NEIGHBOUR: 'it returns false'. Refute it at one input. -/
def fnManyAddWrong : ChangeSpec := { name := "fnManyAdd", fn := fun _ => fun
  | [d] => { results := [.lit (.bool false)], args := [d] }
  | _ => none }
def FnManyAddWrongFalsely : Prop := fnManyAddRow.holds Try.pinned (OpenSpec.ofChange fnManyAddWrong)

/-- 'laws.FnRoughPass': WHATEVER THE INPUT: true; the input reads as it did. -/
def fnRoughPassSpec : ChangeSpec := { name := "fnRoughPass", fn := fun _ => fun
  | [d] => { results := [.lit (.bool true)], args := [d] }
  | _ => none }
def fnRoughPassRow : OpenClaim := { program := "ytdnalkppligodab", sum := "9a7847fba9605bf88ec4c2fa27e40d69ed8ebb3800ef822b4e848d4edae8ba27", func := "loop.example/icecores/laws.FnRoughPass", spec := "fnRoughPass", apart := false }
def FnRoughPassSaid : Prop := fnRoughPassRow.holds Try.pinned (OpenSpec.ofChange fnRoughPassSpec)

/-- ITS FALSE NEIGHBOUR: 'it returns false'. Refute it at one input. -/
def fnRoughPassWrong : ChangeSpec := { name := "fnRoughPass", fn := fun _ => fun
  | [d] => { results := [.lit (.bool false)], args := [d] }
  | _ => none }
def FnRoughPassWrongFalsely : Prop := fnRoughPassRow.holds Try.pinned (OpenSpec.ofChange fnRoughPassWrong)

/-- 'laws.FnSumRange': WHATEVER THE INPUT: true; the input reads as it did. -/
def fnSumRangeSpec : ChangeSpec := { name := "fnSumRange", fn := fun _ => fun
  | [d] => { results := [.lit (.bool true)], args := [d] }
  | _ => none }
def fnSumRangeRow : OpenClaim := { program := "ytdnalkppligodab", sum := "9a7847fba9605bf88ec4c2fa27e40d69ed8ebb3800ef822b4e848d4edae8ba27", func := "loop.example/icecores/laws.FnSumRange", spec := "fnSumRange", apart := false }
def FnSumRangeSaid : Prop := fnSumRangeRow.holds Try.pinned (OpenSpec.ofChange fnSumRangeSpec)

/-- ITS FALSE NEIGHBOUR: 'it returns false'. Refute it at one input. -/
def fnSumRangeWrong : ChangeSpec := { name := "fnSumRange", fn := fun _ => fun
  | [d] => { results := [.lit (.bool false)], args := [d] }
  | _ => none }
def FnSumRangeWrongFalsely : Prop := fnSumRangeRow.holds Try.pinned (OpenSpec.ofChange fnSumRangeWrong)

/-- 'laws.FnExactSmoothPass': WHATEVER THE INPUT: true; the input reads as it did. -/
def fnExactSmoothPassSpec : ChangeSpec := { name := "fnExactSmoothPass", fn := fun _ => fun
  | [d] => { results := [.lit (.bool true)], args := [d] }
  | _ => none }
def fnExactSmoothPassRow : OpenClaim := { program := "ytdnalkppligodab", sum := "9a7847fba9605bf88ec4c2fa27e40d69ed8ebb3800ef822b4e848d4edae8ba27", func := "loop.example/icecores/laws.FnExactSmoothPass", spec := "fnExactSmoothPass", apart := false }
def FnExactSmoothPassSaid : Prop := fnExactSmoothPassRow.holds Try.pinned (OpenSpec.ofChange fnExactSmoothPassSpec)

/-- ITS FALSE NEIGHBOUR: 'it returns false'. Refute it at one input. -/
def fnExactSmoothPassWrong : ChangeSpec := { name := "fnExactSmoothPass", fn := fun _ => fun
  | [d] => { results := [.lit (.bool false)], args := [d] }
  | _ => none }
def FnExactSmoothPassWrongFalsely : Prop := fnExactSmoothPassRow.holds Try.pinned (OpenSpec.ofChange fnExactSmoothPassWrong)

/- THE SECOND FORM. 'bulk': how many values and letters a reading holds, each counted each time it is reached (what is shared counts as often as it is met; a slice's spare places count too). A statement '..UptoSaid' is the law's where the arguments, and the package variables that the reading takes, are together of bulk at most 1048576: NARROWER than '..Said'. Prove '..Said' where nothing that the law and all that it calls make is longer than what came in: it says more and counts as full. Else prove '..UptoSaid'. A law counts once. -/
mutual
def uptoBulk {H : Type} : DataW H → Nat
  | .lit (.string bytes) => bytes.length + 1
  | .lit _ => 1
  | .nil => 1
  | .ptr d => uptoBulk d + 1
  | .slice elems spare => uptoBulkAll elems + uptoBulkAll spare + 1
  | .agg parts => uptoBulkAll parts + 1
  | .iface _ d => uptoBulk d + 1
  | .map entries => uptoBulkEntries entries + 1
  | .held _ => 1
def uptoBulkAll {H : Type} : List (DataW H) → Nat
  | [] => 0
  | d :: r => uptoBulk d + uptoBulkAll r
def uptoBulkEntries {H : Type} : List (Lit × DataW H) → Nat
  | [] => 0
  | x :: r => uptoBulkEntry x + uptoBulkEntries r
def uptoBulkEntry {H : Type} : Lit × DataW H → Nat
  | (.string bytes, d) => bytes.length + uptoBulk d + 1
  | (_, d) => uptoBulk d + 1
 end
def uptoSmall : (H : Type) → List (DataW H) → Bool := fun _ ds => decide (uptoBulkAll ds ≤ 1048576)
def OpenSpec.upto (s : _root_.Go.ChangeSpec) : _root_.Go.OpenSpec := { _root_.Go.OpenSpec.ofChange s with cond := some uptoSmall }

/-- 'laws.FnSum', WHERE WHAT IT READS IS OF BULK AT MOST 1048576: true; the input reads as it did. -/
def fnSumUptoRow : OpenClaim := { program := "ytdnalkppligodab", sum := "9a7847fba9605bf88ec4c2fa27e40d69ed8ebb3800ef822b4e848d4edae8ba27", func := "loop.example/icecores/laws.FnSum", spec := "fnSum", apart := false, narrowed := true }
def FnSumUptoSaid : Prop := fnSumUptoRow.holds Try.pinned (OpenSpec.upto fnSumSpec)

/-- 'laws.FnRough', WHERE WHAT IT READS IS OF BULK AT MOST 1048576: true; the input reads as it did. -/
def fnRoughUptoRow : OpenClaim := { program := "ytdnalkppligodab", sum := "9a7847fba9605bf88ec4c2fa27e40d69ed8ebb3800ef822b4e848d4edae8ba27", func := "loop.example/icecores/laws.FnRough", spec := "fnRough", apart := false, narrowed := true }
def FnRoughUptoSaid : Prop := fnRoughUptoRow.holds Try.pinned (OpenSpec.upto fnRoughSpec)

/-- 'laws.FnRange', WHERE WHAT IT READS IS OF BULK AT MOST 1048576: true; the input reads as it did. -/
def fnRangeUptoRow : OpenClaim := { program := "ytdnalkppligodab", sum := "9a7847fba9605bf88ec4c2fa27e40d69ed8ebb3800ef822b4e848d4edae8ba27", func := "loop.example/icecores/laws.FnRange", spec := "fnRange", apart := false, narrowed := true }
def FnRangeUptoSaid : Prop := fnRangeUptoRow.holds Try.pinned (OpenSpec.upto fnRangeSpec)

/-- 'laws.FnPassLess', WHERE WHAT IT READS IS OF BULK AT MOST 1048576: true; the input reads as it did. -/
def fnPassLessUptoRow : OpenClaim := { program := "ytdnalkppligodab", sum := "9a7847fba9605bf88ec4c2fa27e40d69ed8ebb3800ef822b4e848d4edae8ba27", func := "loop.example/icecores/laws.FnPassLess", spec := "fnPassLess", apart := false, narrowed := true }
def FnPassLessUptoSaid : Prop := fnPassLessUptoRow.holds Try.pinned (OpenSpec.upto fnPassLessSpec)

/-- 'laws.FnManyFlat', WHERE WHAT IT READS IS OF BULK AT MOST 1048576: true; the input reads as it did. -/
def fnManyFlatUptoRow : OpenClaim := { program := "ytdnalkppligodab", sum := "9a7847fba9605bf88ec4c2fa27e40d69ed8ebb3800ef822b4e848d4edae8ba27", func := "loop.example/icecores/laws.FnManyFlat", spec := "fnManyFlat", apart := false, narrowed := true }
def FnManyFlatUptoSaid : Prop := fnManyFlatUptoRow.holds Try.pinned (OpenSpec.upto fnManyFlatSpec)

/-- 'laws.FnManyAdd', WHERE WHAT IT READS IS OF BULK AT MOST 1048576: true; the input reads as it did. -/
def fnManyAddUptoRow : OpenClaim := { program := "ytdnalkppligodab", sum := "9a7847fba9605bf88ec4c2fa27e40d69ed8ebb3800ef822b4e848d4edae8ba27", func := "loop.example/icecores/laws.FnManyAdd", spec := "fnManyAdd", apart := false, narrowed := true }
def FnManyAddUptoSaid : Prop := fnManyAddUptoRow.holds Try.pinned (OpenSpec.upto fnManyAddSpec)

/-- 'laws.FnRoughPass', WHERE WHAT IT READS IS OF BULK AT MOST 1048576: true; the input reads as it did. -/
def fnRoughPassUptoRow : OpenClaim := { program := "ytdnalkppligodab", sum := "9a7847fba9605bf88ec4c2fa27e40d69ed8ebb3800ef822b4e848d4edae8ba27", func := "loop.example/icecores/laws.FnRoughPass", spec := "fnRoughPass", apart := false, narrowed := true }
def FnRoughPassUptoSaid : Prop := fnRoughPassUptoRow.holds Try.pinned (OpenSpec.upto fnRoughPassSpec)

/-- 'laws.FnSumRange', WHERE WHAT IT READS IS OF BULK AT MOST 1048576: true; the input reads as it did. -/
def fnSumRangeUptoRow : OpenClaim := { program := "ytdnalkppligodab", sum := "9a7847fba9605bf88ec4c2fa27e40d69ed8ebb3800ef822b4e848d4edae8ba27", func := "loop.example/icecores/laws.FnSumRange", spec := "fnSumRange", apart := false, narrowed := true }
def FnSumRangeUptoSaid : Prop := fnSumRangeUptoRow.holds Try.pinned (OpenSpec.upto fnSumRangeSpec)

/-- 'laws.FnExactSmoothPass', WHERE WHAT IT READS IS OF BULK AT MOST 1048576: true; the input reads as it did. -/
def fnExactSmoothPassUptoRow : OpenClaim := { program := "ytdnalkppligodab", sum := "9a7847fba9605bf88ec4c2fa27e40d69ed8ebb3800ef822b4e848d4edae8ba27", func := "loop.example/icecores/laws.FnExactSmoothPass", spec := "fnExactSmoothPass", apart := false, narrowed := true }
def FnExactSmoothPassUptoSaid : Prop := fnExactSmoothPassUptoRow.holds Try.pinned (OpenSpec.upto fnExactSmoothPassSpec)

end Rows
end Go.Proofs.Ytdnalkppligodab
