/-
  No cell of these rows narrows 'for every input' (looked for: loops, veiled, ifaces, maps, wideKeys, modest, calm, conditions, laid).
  DERIVED. THE GIVEN ROWS OF THIS SEAT. 5 by the template 'for every input the law returns true; each argument reads behind the call as it read before'; 0 by the template 'total and deterministic' (their statements: YtcemgdekcfdfhaaTotals.lean).
  GIVEN WITH THE SEED: the statements are not yours to turn. If you find one false, say at which input.
  Laid BY PROGRAM, IN A SANDBOX (cutbox-rows.mjs): the forced cells as the released guide's own fill.sh prints them over the translation cf90dd899478756d… (all of the seat's roots in one cut). By AI agents, Wed Nov 11 2026. No macro, syntax, notation, axiom, sorry.
-/
import Derived.Test.YtcemgdekcfdfhaaChecked
import GoSem.Claim
import GoSem.ClaimJoined
import GoSem.ClaimMapViews
import Derived.JoinedTies
import Derived.KernelRfl
namespace Go.Proofs.Ytcemgdekcfdfhaa
/- THE CELL 'sum', in the pinned program and in every row, IS THE sha256 OF THE DUMP (.gsa) THAT YtcemgdekcfdfhaaProg.lean LOADS. Nothing in Lean hashes anything: it is a label: what it is worth is what the hold of that sum in a sandbox is worth. -/
noncomputable def Try.pinned : Pinned := { name := "ytcemgdekcfdfhaa", sum := "cf90dd899478756d4775a2e0f4bc6180230fceb95e5babf27334635f6d7c07ed", checked := Try.checked }
namespace Rows
def none {H : Type} : Left H := { results := [], args := [] }

/-- 'laws.FnOrderCount': WHATEVER THE INPUT: true; the input reads as it did. -/
def fnOrderCountSpec : ChangeSpec := { name := "fnOrderCount", fn := fun _ => fun
  | [d1, d2] => { results := [.lit (.bool true)], args := [d1, d2] }
  | _ => none }
def fnOrderCountRow : OpenClaim := { program := "ytcemgdekcfdfhaa", sum := "cf90dd899478756d4775a2e0f4bc6180230fceb95e5babf27334635f6d7c07ed", func := "loop.example/icecores/laws.FnOrderCount", spec := "fnOrderCount", apart := false }
def FnOrderCountSaid : Prop := fnOrderCountRow.holds Try.pinned (OpenSpec.ofChange fnOrderCountSpec)

/-- ITS FALSE NEIGHBOUR: 'it returns false'. Refute it at one input. -/
def fnOrderCountWrong : ChangeSpec := { name := "fnOrderCount", fn := fun _ => fun
  | [d1, d2] => { results := [.lit (.bool false)], args := [d1, d2] }
  | _ => none }
def FnOrderCountWrongFalsely : Prop := fnOrderCountRow.holds Try.pinned (OpenSpec.ofChange fnOrderCountWrong)

/-- 'laws.FnOrderCountSum': WHATEVER THE INPUT: true; the input reads as it did. -/
def fnOrderCountSumSpec : ChangeSpec := { name := "fnOrderCountSum", fn := fun _ => fun
  | [d] => { results := [.lit (.bool true)], args := [d] }
  | _ => none }
def fnOrderCountSumRow : OpenClaim := { program := "ytcemgdekcfdfhaa", sum := "cf90dd899478756d4775a2e0f4bc6180230fceb95e5babf27334635f6d7c07ed", func := "loop.example/icecores/laws.FnOrderCountSum", spec := "fnOrderCountSum", apart := false }
def FnOrderCountSumSaid : Prop := fnOrderCountSumRow.holds Try.pinned (OpenSpec.ofChange fnOrderCountSumSpec)

/-- ITS FALSE NEIGHBOUR: 'it returns false'. Refute it at one input. -/
def fnOrderCountSumWrong : ChangeSpec := { name := "fnOrderCountSum", fn := fun _ => fun
  | [d] => { results := [.lit (.bool false)], args := [d] }
  | _ => none }
def FnOrderCountSumWrongFalsely : Prop := fnOrderCountSumRow.holds Try.pinned (OpenSpec.ofChange fnOrderCountSumWrong)

/-- 'laws.FnOrderNext': WHATEVER THE INPUT: true; the input reads as it did. -/
def fnOrderNextSpec : ChangeSpec := { name := "fnOrderNext", fn := fun _ => fun
  | [d] => { results := [.lit (.bool true)], args := [d] }
  | _ => none }
def fnOrderNextRow : OpenClaim := { program := "ytcemgdekcfdfhaa", sum := "cf90dd899478756d4775a2e0f4bc6180230fceb95e5babf27334635f6d7c07ed", func := "loop.example/icecores/laws.FnOrderNext", spec := "fnOrderNext", inPlace := ["internal/abi.NoEscape", "internal/bytealg.MakeNoZero"], apart := false }
def FnOrderNextSaid : Prop := fnOrderNextRow.holds Try.pinned (OpenSpec.ofChange fnOrderNextSpec)

/-- ITS FALSE NEIGHBOUR: 'it returns false'. Refute it at one input. -/
def fnOrderNextWrong : ChangeSpec := { name := "fnOrderNext", fn := fun _ => fun
  | [d] => { results := [.lit (.bool false)], args := [d] }
  | _ => none }
def FnOrderNextWrongFalsely : Prop := fnOrderNextRow.holds Try.pinned (OpenSpec.ofChange fnOrderNextWrong)

/-- 'laws.FnOrderFirst': WHATEVER THE INPUT: true; the input reads as it did. -/
def fnOrderFirstSpec : ChangeSpec := { name := "fnOrderFirst", fn := fun _ => fun
  | [d] => { results := [.lit (.bool true)], args := [d] }
  | _ => none }
def fnOrderFirstRow : OpenClaim := { program := "ytcemgdekcfdfhaa", sum := "cf90dd899478756d4775a2e0f4bc6180230fceb95e5babf27334635f6d7c07ed", func := "loop.example/icecores/laws.FnOrderFirst", spec := "fnOrderFirst", inPlace := ["internal/abi.NoEscape", "internal/bytealg.MakeNoZero"], apart := false }
def FnOrderFirstSaid : Prop := fnOrderFirstRow.holds Try.pinned (OpenSpec.ofChange fnOrderFirstSpec)

/-- ITS FALSE NEIGHBOUR: 'it returns false'. Refute it at one input. -/
def fnOrderFirstWrong : ChangeSpec := { name := "fnOrderFirst", fn := fun _ => fun
  | [d] => { results := [.lit (.bool false)], args := [d] }
  | _ => none }
def FnOrderFirstWrongFalsely : Prop := fnOrderFirstRow.holds Try.pinned (OpenSpec.ofChange fnOrderFirstWrong)

/-- 'laws.FnBetween24': WHATEVER THE INPUT: true; the input reads as it did. -/
def fnBetween24Spec : ChangeSpec := { name := "fnBetween24", fn := fun _ => fun
  | [d] => { results := [.lit (.bool true)], args := [d] }
  | _ => none }
def fnBetween24Row : OpenClaim := { program := "ytcemgdekcfdfhaa", sum := "cf90dd899478756d4775a2e0f4bc6180230fceb95e5babf27334635f6d7c07ed", func := "loop.example/icecores/laws.FnBetween24", spec := "fnBetween24", apart := false }
def FnBetween24Said : Prop := fnBetween24Row.holds Try.pinned (OpenSpec.ofChange fnBetween24Spec)

/-- ITS FALSE NEIGHBOUR: 'it returns false'. Refute it at one input. -/
def fnBetween24Wrong : ChangeSpec := { name := "fnBetween24", fn := fun _ => fun
  | [d] => { results := [.lit (.bool false)], args := [d] }
  | _ => none }
def FnBetween24WrongFalsely : Prop := fnBetween24Row.holds Try.pinned (OpenSpec.ofChange fnBetween24Wrong)

/- THE SECOND FORM. 'bulk': how many values and letters a reading holds, each counted each time it is reached (what is shared counts as often as it is met; a slice's spare places count too). A statement '..UptoSaid' is the law's where the arguments, and the package variables that the reading takes, are together of bulk at most 1048576: NARROWER than '..Said'. Prove '..Said' where nothing that the law and all that it calls make is longer than what came in: it says more and counts as full. Else prove '..UptoSaid'. A law counts once. -/
mutual
def uptoBulk {H : Type} : DataW H → Nat
  | .lit (.string bytes) => bytes.length + 1
  | .lit _ => 1
  | .nil => 1
  | .ptr d => uptoBulk d + 1
  | .slice elems spare => uptoBulkAll elems + uptoBulkAll spare + 1
  | .agg parts => uptoBulkAll parts + 1
  | .iface _ d => uptoBulk d + 1
  | .map entries => uptoBulkEntries entries + 1
  | .held _ => 1
def uptoBulkAll {H : Type} : List (DataW H) → Nat
  | [] => 0
  | d :: r => uptoBulk d + uptoBulkAll r
def uptoBulkEntries {H : Type} : List (Lit × DataW H) → Nat
  | [] => 0
  | x :: r => uptoBulkEntry x + uptoBulkEntries r
def uptoBulkEntry {H : Type} : Lit × DataW H → Nat
  | (.string bytes, d) => bytes.length + uptoBulk d + 1
  | (_, d) => uptoBulk d + 1
 end
def uptoSmall : (H : Type) → List (DataW H) → Bool := fun _ ds => decide (uptoBulkAll ds ≤ 1048576)
def OpenSpec.upto (s : _root_.Go.ChangeSpec) : _root_.Go.OpenSpec := { _root_.Go.OpenSpec.ofChange s with cond := some uptoSmall }

/-- 'laws.FnOrderCount', WHERE WHAT IT READS IS OF BULK AT MOST 1048576: true; the input reads as it did. -/
def fnOrderCountUptoRow : OpenClaim := { program := "ytcemgdekcfdfhaa", sum := "cf90dd899478756d4775a2e0f4bc6180230fceb95e5babf27334635f6d7c07ed", func := "loop.example/icecores/laws.FnOrderCount", spec := "fnOrderCount", apart := false, narrowed := true }
def FnOrderCountUptoSaid : Prop := fnOrderCountUptoRow.holds Try.pinned (OpenSpec.upto fnOrderCountSpec)

/-- 'laws.FnOrderCountSum', WHERE WHAT IT READS IS OF BULK AT MOST 1048576: true; the input reads as it did. -/
def fnOrderCountSumUptoRow : OpenClaim := { program := "ytcemgdekcfdfhaa", sum := "cf90dd899478756d4775a2e0f4bc6180230fceb95e5babf27334635f6d7c07ed", func := "loop.example/icecores/laws.FnOrderCountSum", spec := "fnOrderCountSum", apart := false, narrowed := true }
def FnOrderCountSumUptoSaid : Prop := fnOrderCountSumUptoRow.holds Try.pinned (OpenSpec.upto fnOrderCountSumSpec)

/-- 'laws.FnOrderNext', WHERE WHAT IT READS IS OF BULK AT MOST 1048576: true; the input reads as it did. -/
def fnOrderNextUptoRow : OpenClaim := { program := "ytcemgdekcfdfhaa", sum := "cf90dd899478756d4775a2e0f4bc6180230fceb95e5babf27334635f6d7c07ed", func := "loop.example/icecores/laws.FnOrderNext", spec := "fnOrderNext", inPlace := ["internal/abi.NoEscape", "internal/bytealg.MakeNoZero"], apart := false, narrowed := true }
def FnOrderNextUptoSaid : Prop := fnOrderNextUptoRow.holds Try.pinned (OpenSpec.upto fnOrderNextSpec)

/-- 'laws.FnOrderFirst', WHERE WHAT IT READS IS OF BULK AT MOST 1048576: true; the input reads as it did. -/
def fnOrderFirstUptoRow : OpenClaim := { program := "ytcemgdekcfdfhaa", sum := "cf90dd899478756d4775a2e0f4bc6180230fceb95e5babf27334635f6d7c07ed", func := "loop.example/icecores/laws.FnOrderFirst", spec := "fnOrderFirst", inPlace := ["internal/abi.NoEscape", "internal/bytealg.MakeNoZero"], apart := false, narrowed := true }
def FnOrderFirstUptoSaid : Prop := fnOrderFirstUptoRow.holds Try.pinned (OpenSpec.upto fnOrderFirstSpec)

/-- 'laws.FnBetween24', WHERE WHAT IT READS IS OF BULK AT MOST 1048576: true; the input reads as it did. -/
def fnBetween24UptoRow : OpenClaim := { program := "ytcemgdekcfdfhaa", sum := "cf90dd899478756d4775a2e0f4bc6180230fceb95e5babf27334635f6d7c07ed", func := "loop.example/icecores/laws.FnBetween24", spec := "fnBetween24", apart := false, narrowed := true }
def FnBetween24UptoSaid : Prop := fnBetween24UptoRow.holds Try.pinned (OpenSpec.upto fnBetween24Spec)

end Rows
end Go.Proofs.Ytcemgdekcfdfhaa
