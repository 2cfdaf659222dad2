/-
  No cell of these rows narrows 'for every input' (looked for: loops, veiled, ifaces, maps, wideKeys, modest, calm, conditions, laid).
  DERIVED. THE GIVEN ROWS OF THIS SEAT. 4 by the template 'for every input the law returns true; each argument reads behind the call as it read before'; 0 by the template 'total and deterministic' (their statements: YtkcbgeldnibjcacTotals.lean).
  GIVEN WITH THE SEED: the statements are not yours to turn. If you find one false, say at which input.
  Laid BY PROGRAM, IN A SANDBOX (cutbox-rows.mjs): the forced cells as the released guide's own fill.sh prints them over the translation 840a67131f3499fb… (all of the seat's roots in one cut). By AI agents, Wed Nov 11 2026. No macro, syntax, notation, axiom, sorry.
-/
import Derived.Test.YtkcbgeldnibjcacChecked
import GoSem.Claim
import GoSem.ClaimJoined
import GoSem.ClaimMapViews
import Derived.JoinedTies
import Derived.KernelRfl
namespace Go.Proofs.Ytkcbgeldnibjcac
/- THE CELL 'sum', in the pinned program and in every row, IS THE sha256 OF THE DUMP (.gsa) THAT YtkcbgeldnibjcacProg.lean LOADS. Nothing in Lean hashes anything: it is a label: what it is worth is what the hold of that sum in a sandbox is worth. -/
noncomputable def Try.pinned : Pinned := { name := "ytkcbgeldnibjcac", sum := "840a67131f3499fb4b015171f4971059087f45e9408d19e83dcea5c14421c969", checked := Try.checked }
namespace Rows
def none {H : Type} : Left H := { results := [], args := [] }

/-- 'laws.FnExactRecordBetween': WHATEVER THE INPUT: true; the input reads as it did. -/
def fnExactRecordBetweenSpec : ChangeSpec := { name := "fnExactRecordBetween", fn := fun _ => fun
  | [d1, d2, d3, d4] => { results := [.lit (.bool true)], args := [d1, d2, d3, d4] }
  | _ => none }
def fnExactRecordBetweenRow : OpenClaim := { program := "ytkcbgeldnibjcac", sum := "840a67131f3499fb4b015171f4971059087f45e9408d19e83dcea5c14421c969", func := "loop.example/icecores/laws.FnExactRecordBetween", spec := "fnExactRecordBetween", unfollowed := true, recurses := true, apart := false }
def FnExactRecordBetweenSaid : Prop := fnExactRecordBetweenRow.holds Try.pinned (OpenSpec.ofChange fnExactRecordBetweenSpec)

/-- ITS FALSE NEIGHBOUR: 'it returns false'. Refute it at one input. -/
def fnExactRecordBetweenWrong : ChangeSpec := { name := "fnExactRecordBetween", fn := fun _ => fun
  | [d1, d2, d3, d4] => { results := [.lit (.bool false)], args := [d1, d2, d3, d4] }
  | _ => none }
def FnExactRecordBetweenWrongFalsely : Prop := fnExactRecordBetweenRow.holds Try.pinned (OpenSpec.ofChange fnExactRecordBetweenWrong)

/-- 'laws.FnExactRecordRebin': WHATEVER THE INPUT: true; the input reads as it did. -/
def fnExactRecordRebinSpec : ChangeSpec := { name := "fnExactRecordRebin", fn := fun _ => fun
  | [d1, d2, d3] => { results := [.lit (.bool true)], args := [d1, d2, d3] }
  | _ => none }
def fnExactRecordRebinRow : OpenClaim := { program := "ytkcbgeldnibjcac", sum := "840a67131f3499fb4b015171f4971059087f45e9408d19e83dcea5c14421c969", func := "loop.example/icecores/laws.FnExactRecordRebin", spec := "fnExactRecordRebin", unfollowed := true, recurses := true, apart := false }
def FnExactRecordRebinSaid : Prop := fnExactRecordRebinRow.holds Try.pinned (OpenSpec.ofChange fnExactRecordRebinSpec)

/-- ITS FALSE NEIGHBOUR: 'it returns false'. Refute it at one input. -/
def fnExactRecordRebinWrong : ChangeSpec := { name := "fnExactRecordRebin", fn := fun _ => fun
  | [d1, d2, d3] => { results := [.lit (.bool false)], args := [d1, d2, d3] }
  | _ => none }
def FnExactRecordRebinWrongFalsely : Prop := fnExactRecordRebinRow.holds Try.pinned (OpenSpec.ofChange fnExactRecordRebinWrong)

/-- 'laws.FnExactRecordMerge': WHATEVER THE INPUT: true; the input reads as it did. -/
def fnExactRecordMergeSpec : ChangeSpec := { name := "fnExactRecordMerge", fn := fun _ => fun
  | [d1, d2, d3] => { results := [.lit (.bool true)], args := [d1, d2, d3] }
  | _ => none }
def fnExactRecordMergeRow : OpenClaim := { program := "ytkcbgeldnibjcac", sum := "840a67131f3499fb4b015171f4971059087f45e9408d19e83dcea5c14421c969", func := "loop.example/icecores/laws.FnExactRecordMerge", spec := "fnExactRecordMerge", apart := false }
def FnExactRecordMergeSaid : Prop := fnExactRecordMergeRow.holds Try.pinned (OpenSpec.ofChange fnExactRecordMergeSpec)

/-- ITS FALSE NEIGHBOUR: 'it returns false'. Refute it at one input. -/
def fnExactRecordMergeWrong : ChangeSpec := { name := "fnExactRecordMerge", fn := fun _ => fun
  | [d1, d2, d3] => { results := [.lit (.bool false)], args := [d1, d2, d3] }
  | _ => none }
def FnExactRecordMergeWrongFalsely : Prop := fnExactRecordMergeRow.holds Try.pinned (OpenSpec.ofChange fnExactRecordMergeWrong)

/-- 'laws.FnExactRecordMean': WHATEVER THE INPUT: true; the input reads as it did. -/
def fnExactRecordMeanSpec : ChangeSpec := { name := "fnExactRecordMean", fn := fun _ => fun
  | [d1, d2, d3, d4] => { results := [.lit (.bool true)], args := [d1, d2, d3, d4] }
  | _ => none }
def fnExactRecordMeanRow : OpenClaim := { program := "ytkcbgeldnibjcac", sum := "840a67131f3499fb4b015171f4971059087f45e9408d19e83dcea5c14421c969", func := "loop.example/icecores/laws.FnExactRecordMean", spec := "fnExactRecordMean", unfollowed := true, recurses := true, apart := false }
def FnExactRecordMeanSaid : Prop := fnExactRecordMeanRow.holds Try.pinned (OpenSpec.ofChange fnExactRecordMeanSpec)

/-- ITS FALSE NEIGHBOUR: 'it returns false'. Refute it at one input. -/
def fnExactRecordMeanWrong : ChangeSpec := { name := "fnExactRecordMean", fn := fun _ => fun
  | [d1, d2, d3, d4] => { results := [.lit (.bool false)], args := [d1, d2, d3, d4] }
  | _ => none }
def FnExactRecordMeanWrongFalsely : Prop := fnExactRecordMeanRow.holds Try.pinned (OpenSpec.ofChange fnExactRecordMeanWrong)

/- THE SECOND FORM. 'bulk': how many values and letters a reading holds, each counted each time it is reached (what is shared counts as often as it is met; a slice's spare places count too). A statement '..UptoSaid' is the law's where the arguments, and the package variables that the reading takes, are together of bulk at most 1048576: NARROWER than '..Said'. Prove '..Said' where nothing that the law and all that it calls make is longer than what came in: it says more and counts as full. Else prove '..UptoSaid'. A law counts once. -/
mutual
def uptoBulk {H : Type} : DataW H → Nat
  | .lit (.string bytes) => bytes.length + 1
  | .lit _ => 1
  | .nil => 1
  | .ptr d => uptoBulk d + 1
  | .slice elems spare => uptoBulkAll elems + uptoBulkAll spare + 1
  | .agg parts => uptoBulkAll parts + 1
  | .iface _ d => uptoBulk d + 1
  | .map entries => uptoBulkEntries entries + 1
  | .held _ => 1
def uptoBulkAll {H : Type} : List (DataW H) → Nat
  | [] => 0
  | d :: r => uptoBulk d + uptoBulkAll r
def uptoBulkEntries {H : Type} : List (Lit × DataW H) → Nat
  | [] => 0
  | x :: r => uptoBulkEntry x + uptoBulkEntries r
def uptoBulkEntry {H : Type} : Lit × DataW H → Nat
  | (.string bytes, d) => bytes.length + uptoBulk d + 1
  | (_, d) => uptoBulk d + 1
 end
def uptoSmall : (H : Type) → List (DataW H) → Bool := fun _ ds => decide (uptoBulkAll ds ≤ 1048576)
def OpenSpec.upto (s : _root_.Go.ChangeSpec) : _root_.Go.OpenSpec := { _root_.Go.OpenSpec.ofChange s with cond := some uptoSmall }

/-- 'laws.FnExactRecordBetween', WHERE WHAT IT READS IS OF BULK AT MOST 1048576: true; the input reads as it did. -/
def fnExactRecordBetweenUptoRow : OpenClaim := { program := "ytkcbgeldnibjcac", sum := "840a67131f3499fb4b015171f4971059087f45e9408d19e83dcea5c14421c969", func := "loop.example/icecores/laws.FnExactRecordBetween", spec := "fnExactRecordBetween", unfollowed := true, recurses := true, apart := false, narrowed := true }
def FnExactRecordBetweenUptoSaid : Prop := fnExactRecordBetweenUptoRow.holds Try.pinned (OpenSpec.upto fnExactRecordBetweenSpec)

/-- 'laws.FnExactRecordRebin', WHERE WHAT IT READS IS OF BULK AT MOST 1048576: true; the input reads as it did. -/
def fnExactRecordRebinUptoRow : OpenClaim := { program := "ytkcbgeldnibjcac", sum := "840a67131f3499fb4b015171f4971059087f45e9408d19e83dcea5c14421c969", func := "loop.example/icecores/laws.FnExactRecordRebin", spec := "fnExactRecordRebin", unfollowed := true, recurses := true, apart := false, narrowed := true }
def FnExactRecordRebinUptoSaid : Prop := fnExactRecordRebinUptoRow.holds Try.pinned (OpenSpec.upto fnExactRecordRebinSpec)

/-- 'laws.FnExactRecordMerge', WHERE WHAT IT READS IS OF BULK AT MOST 1048576: true; the input reads as it did. -/
def fnExactRecordMergeUptoRow : OpenClaim := { program := "ytkcbgeldnibjcac", sum := "840a67131f3499fb4b015171f4971059087f45e9408d19e83dcea5c14421c969", func := "loop.example/icecores/laws.FnExactRecordMerge", spec := "fnExactRecordMerge", apart := false, narrowed := true }
def FnExactRecordMergeUptoSaid : Prop := fnExactRecordMergeUptoRow.holds Try.pinned (OpenSpec.upto fnExactRecordMergeSpec)

/-- 'laws.FnExactRecordMean', WHERE WHAT IT READS IS OF BULK AT MOST 1048576: true; the input reads as it did. -/
def fnExactRecordMeanUptoRow : OpenClaim := { program := "ytkcbgeldnibjcac", sum := "840a67131f3499fb4b015171f4971059087f45e9408d19e83dcea5c14421c969", func := "loop.example/icecores/laws.FnExactRecordMean", spec := "fnExactRecordMean", unfollowed := true, recurses := true, apart := false, narrowed := true }
def FnExactRecordMeanUptoSaid : Prop := fnExactRecordMeanUptoRow.holds Try.pinned (OpenSpec.upto fnExactRecordMeanSpec)

end Rows
end Go.Proofs.Ytkcbgeldnibjcac
