/-
  No cell of these rows narrows 'for every input' (looked for: loops, veiled, ifaces, maps, wideKeys, modest, calm, conditions, laid).
  DERIVED. THE GIVEN ROWS OF THIS SEAT. 9 by the template 'for every input the law returns true; each argument reads behind the call as it read before'; 0 by the template 'total and deterministic' (their statements: YtbjeedeapioljabTotals.lean).
  GIVEN WITH THE SEED: the statements are not yours to turn. If you find one false, say at which input.
  Laid BY PROGRAM, IN A SANDBOX (cutbox-rows.mjs): the forced cells as the released guide's own fill.sh prints them over the translation 559df8cfef7b4c98… (all of the seat's roots in one cut). By AI agents, Wed Nov 11 2026. No macro, syntax, notation, axiom, sorry.
-/
import Derived.Test.YtbjeedeapioljabChecked
import GoSem.Claim
import GoSem.ClaimJoined
import GoSem.ClaimMapViews
import Derived.JoinedTies
import Derived.KernelRfl
namespace Go.Proofs.Ytbjeedeapioljab
/- THE CELL 'sum', in the pinned program and in every row, IS THE sha256 OF THE DUMP (.gsa) THAT YtbjeedeapioljabProg.lean LOADS. Nothing in Lean hashes anything: it is a label: what it is worth is what the hold of that sum in a sandbox is worth. -/
noncomputable def Try.pinned : Pinned := { name := "ytbjeedeapioljab", sum := "559df8cfef7b4c9813ce8873fa7a4c778c4fa4d9abafa23a1e4df141ae460bec", checked := Try.checked }
namespace Rows
def none {H : Type} : Left H := { results := [], args := [] }

/-- 'laws.FnDepth': WHATEVER THE INPUT: true; the input reads as it did. -/
def fnDepthSpec : ChangeSpec := { name := "fnDepth", fn := fun _ => fun
  | [d] => { results := [.lit (.bool true)], args := [d] }
  | _ => none }
def fnDepthRow : OpenClaim := { program := "ytbjeedeapioljab", sum := "559df8cfef7b4c9813ce8873fa7a4c778c4fa4d9abafa23a1e4df141ae460bec", func := "loop.example/icecores/laws.FnDepth", spec := "fnDepth", unfollowed := true, recurses := true, apart := false }
def FnDepthSaid : Prop := fnDepthRow.holds Try.pinned (OpenSpec.ofChange fnDepthSpec)

/-- ITS FALSE NEIGHBOUR: 'it returns false'. Refute it at one input. -/
def fnDepthWrong : ChangeSpec := { name := "fnDepth", fn := fun _ => fun
  | [d] => { results := [.lit (.bool false)], args := [d] }
  | _ => none }
def FnDepthWrongFalsely : Prop := fnDepthRow.holds Try.pinned (OpenSpec.ofChange fnDepthWrong)

/-- 'laws.FnDepthRises': WHATEVER THE INPUT: true; the input reads as it did. -/
def fnDepthRisesSpec : ChangeSpec := { name := "fnDepthRises", fn := fun _ => fun
  | [d] => { results := [.lit (.bool true)], args := [d] }
  | _ => none }
def fnDepthRisesRow : OpenClaim := { program := "ytbjeedeapioljab", sum := "559df8cfef7b4c9813ce8873fa7a4c778c4fa4d9abafa23a1e4df141ae460bec", func := "loop.example/icecores/laws.FnDepthRises", spec := "fnDepthRises", unfollowed := true, recurses := true, apart := false }
def FnDepthRisesSaid : Prop := fnDepthRisesRow.holds Try.pinned (OpenSpec.ofChange fnDepthRisesSpec)

/-- ITS FALSE NEIGHBOUR: 'it returns false'. Refute it at one input. -/
def fnDepthRisesWrong : ChangeSpec := { name := "fnDepthRises", fn := fun _ => fun
  | [d] => { results := [.lit (.bool false)], args := [d] }
  | _ => none }
def FnDepthRisesWrongFalsely : Prop := fnDepthRisesRow.holds Try.pinned (OpenSpec.ofChange fnDepthRisesWrong)

/-- 'laws.FnThick': WHATEVER THE INPUT: true; the input reads as it did. -/
def fnThickSpec : ChangeSpec := { name := "fnThick", fn := fun _ => fun
  | [d] => { results := [.lit (.bool true)], args := [d] }
  | _ => none }
def fnThickRow : OpenClaim := { program := "ytbjeedeapioljab", sum := "559df8cfef7b4c9813ce8873fa7a4c778c4fa4d9abafa23a1e4df141ae460bec", func := "loop.example/icecores/laws.FnThick", spec := "fnThick", unfollowed := true, recurses := true, apart := false }
def FnThickSaid : Prop := fnThickRow.holds Try.pinned (OpenSpec.ofChange fnThickSpec)

/-- ITS FALSE NEIGHBOUR: 'it returns false'. Refute it at one input. -/
def fnThickWrong : ChangeSpec := { name := "fnThick", fn := fun _ => fun
  | [d] => { results := [.lit (.bool false)], args := [d] }
  | _ => none }
def FnThickWrongFalsely : Prop := fnThickRow.holds Try.pinned (OpenSpec.ofChange fnThickWrong)

/-- 'laws.FnThickSure': WHATEVER THE INPUT: true; the input reads as it did. -/
def fnThickSureSpec : ChangeSpec := { name := "fnThickSure", fn := fun _ => fun
  | [d] => { results := [.lit (.bool true)], args := [d] }
  | _ => none }
def fnThickSureRow : OpenClaim := { program := "ytbjeedeapioljab", sum := "559df8cfef7b4c9813ce8873fa7a4c778c4fa4d9abafa23a1e4df141ae460bec", func := "loop.example/icecores/laws.FnThickSure", spec := "fnThickSure", unfollowed := true, recurses := true, apart := false }
def FnThickSureSaid : Prop := fnThickSureRow.holds Try.pinned (OpenSpec.ofChange fnThickSureSpec)

/-- ITS FALSE NEIGHBOUR: 'it returns false'. Refute it at one input. -/
def fnThickSureWrong : ChangeSpec := { name := "fnThickSure", fn := fun _ => fun
  | [d] => { results := [.lit (.bool false)], args := [d] }
  | _ => none }
def FnThickSureWrongFalsely : Prop := fnThickSureRow.holds Try.pinned (OpenSpec.ofChange fnThickSureWrong)

/-- 'laws.FnMergeLayersThree': WHATEVER THE INPUT: true; the input reads as it did. -/
def fnMergeLayersThreeSpec : ChangeSpec := { name := "fnMergeLayersThree", fn := fun _ => fun
  | [d] => { results := [.lit (.bool true)], args := [d] }
  | _ => none }
def fnMergeLayersThreeRow : OpenClaim := { program := "ytbjeedeapioljab", sum := "559df8cfef7b4c9813ce8873fa7a4c778c4fa4d9abafa23a1e4df141ae460bec", func := "loop.example/icecores/laws.FnMergeLayersThree", spec := "fnMergeLayersThree", unfollowed := true, recurses := true, apart := false }
def FnMergeLayersThreeSaid : Prop := fnMergeLayersThreeRow.holds Try.pinned (OpenSpec.ofChange fnMergeLayersThreeSpec)

/-- ITS FALSE NEIGHBOUR: 'it returns false'. Refute it at one input. -/
def fnMergeLayersThreeWrong : ChangeSpec := { name := "fnMergeLayersThree", fn := fun _ => fun
  | [d] => { results := [.lit (.bool false)], args := [d] }
  | _ => none }
def FnMergeLayersThreeWrongFalsely : Prop := fnMergeLayersThreeRow.holds Try.pinned (OpenSpec.ofChange fnMergeLayersThreeWrong)

/-- 'laws.FnCountWider': WHATEVER THE INPUT: true; the input reads as it did. -/
def fnCountWiderSpec : ChangeSpec := { name := "fnCountWider", fn := fun _ => fun
  | [d] => { results := [.lit (.bool true)], args := [d] }
  | _ => none }
def fnCountWiderRow : OpenClaim := { program := "ytbjeedeapioljab", sum := "559df8cfef7b4c9813ce8873fa7a4c778c4fa4d9abafa23a1e4df141ae460bec", func := "loop.example/icecores/laws.FnCountWider", spec := "fnCountWider", unfollowed := true, recurses := true, apart := false }
def FnCountWiderSaid : Prop := fnCountWiderRow.holds Try.pinned (OpenSpec.ofChange fnCountWiderSpec)

/-- ITS FALSE NEIGHBOUR: 'it returns false'. Refute it at one input. -/
def fnCountWiderWrong : ChangeSpec := { name := "fnCountWider", fn := fun _ => fun
  | [d] => { results := [.lit (.bool false)], args := [d] }
  | _ => none }
def FnCountWiderWrongFalsely : Prop := fnCountWiderRow.holds Try.pinned (OpenSpec.ofChange fnCountWiderWrong)

/-- 'laws.FnHalfSure': WHATEVER THE INPUT: true; the input reads as it did. -/
def fnHalfSureSpec : ChangeSpec := { name := "fnHalfSure", fn := fun _ => fun
  | [d] => { results := [.lit (.bool true)], args := [d] }
  | _ => none }
def fnHalfSureRow : OpenClaim := { program := "ytbjeedeapioljab", sum := "559df8cfef7b4c9813ce8873fa7a4c778c4fa4d9abafa23a1e4df141ae460bec", func := "loop.example/icecores/laws.FnHalfSure", spec := "fnHalfSure", unfollowed := true, recurses := true, apart := false }
def FnHalfSureSaid : Prop := fnHalfSureRow.holds Try.pinned (OpenSpec.ofChange fnHalfSureSpec)

/-- ITS FALSE NEIGHBOUR: 'it returns false'. Refute it at one input. -/
def fnHalfSureWrong : ChangeSpec := { name := "fnHalfSure", fn := fun _ => fun
  | [d] => { results := [.lit (.bool false)], args := [d] }
  | _ => none }
def FnHalfSureWrongFalsely : Prop := fnHalfSureRow.holds Try.pinned (OpenSpec.ofChange fnHalfSureWrong)

/-- 'laws.FnAgeMerge': WHATEVER THE INPUT: true; the input reads as it did. -/
def fnAgeMergeSpec : ChangeSpec := { name := "fnAgeMerge", fn := fun _ => fun
  | [d1, d2] => { results := [.lit (.bool true)], args := [d1, d2] }
  | _ => none }
def fnAgeMergeRow : OpenClaim := { program := "ytbjeedeapioljab", sum := "559df8cfef7b4c9813ce8873fa7a4c778c4fa4d9abafa23a1e4df141ae460bec", func := "loop.example/icecores/laws.FnAgeMerge", spec := "fnAgeMerge", unfollowed := true, recurses := true, apart := false }
def FnAgeMergeSaid : Prop := fnAgeMergeRow.holds Try.pinned (OpenSpec.ofChange fnAgeMergeSpec)

/-- ITS FALSE NEIGHBOUR: 'it returns false'. Refute it at one input. -/
def fnAgeMergeWrong : ChangeSpec := { name := "fnAgeMerge", fn := fun _ => fun
  | [d1, d2] => { results := [.lit (.bool false)], args := [d1, d2] }
  | _ => none }
def FnAgeMergeWrongFalsely : Prop := fnAgeMergeRow.holds Try.pinned (OpenSpec.ofChange fnAgeMergeWrong)

/-- 'laws.FnThickMerge': WHATEVER THE INPUT: true; the input reads as it did. -/
def fnThickMergeSpec : ChangeSpec := { name := "fnThickMerge", fn := fun _ => fun
  | [d] => { results := [.lit (.bool true)], args := [d] }
  | _ => none }
def fnThickMergeRow : OpenClaim := { program := "ytbjeedeapioljab", sum := "559df8cfef7b4c9813ce8873fa7a4c778c4fa4d9abafa23a1e4df141ae460bec", func := "loop.example/icecores/laws.FnThickMerge", spec := "fnThickMerge", unfollowed := true, recurses := true, apart := false }
def FnThickMergeSaid : Prop := fnThickMergeRow.holds Try.pinned (OpenSpec.ofChange fnThickMergeSpec)

/-- ITS FALSE NEIGHBOUR: 'it returns false'. Refute it at one input. -/
def fnThickMergeWrong : ChangeSpec := { name := "fnThickMerge", fn := fun _ => fun
  | [d] => { results := [.lit (.bool false)], args := [d] }
  | _ => none }
def FnThickMergeWrongFalsely : Prop := fnThickMergeRow.holds Try.pinned (OpenSpec.ofChange fnThickMergeWrong)

/- THE SECOND FORM. 'bulk': how many values and letters a reading holds, each counted each time it is reached (what is shared counts as often as it is met; a slice's spare places count too). A statement '..UptoSaid' is the law's where the arguments, and the package variables that the reading takes, are together of bulk at most 1048576: NARROWER than '..Said'. Prove '..Said' where nothing that the law and all that it calls make is longer than what came in: it says more and counts as full. Else prove '..UptoSaid'. A law counts once. -/
mutual
def uptoBulk {H : Type} : DataW H → Nat
  | .lit (.string bytes) => bytes.length + 1
  | .lit _ => 1
  | .nil => 1
  | .ptr d => uptoBulk d + 1
  | .slice elems spare => uptoBulkAll elems + uptoBulkAll spare + 1
  | .agg parts => uptoBulkAll parts + 1
  | .iface _ d => uptoBulk d + 1
  | .map entries => uptoBulkEntries entries + 1
  | .held _ => 1
def uptoBulkAll {H : Type} : List (DataW H) → Nat
  | [] => 0
  | d :: r => uptoBulk d + uptoBulkAll r
def uptoBulkEntries {H : Type} : List (Lit × DataW H) → Nat
  | [] => 0
  | x :: r => uptoBulkEntry x + uptoBulkEntries r
def uptoBulkEntry {H : Type} : Lit × DataW H → Nat
  | (.string bytes, d) => bytes.length + uptoBulk d + 1
  | (_, d) => uptoBulk d + 1
 end
def uptoSmall : (H : Type) → List (DataW H) → Bool := fun _ ds => decide (uptoBulkAll ds ≤ 1048576)
def OpenSpec.upto (s : _root_.Go.ChangeSpec) : _root_.Go.OpenSpec := { _root_.Go.OpenSpec.ofChange s with cond := some uptoSmall }

/-- 'laws.FnDepth', WHERE WHAT IT READS IS OF BULK AT MOST 1048576: true; the input reads as it did. -/
def fnDepthUptoRow : OpenClaim := { program := "ytbjeedeapioljab", sum := "559df8cfef7b4c9813ce8873fa7a4c778c4fa4d9abafa23a1e4df141ae460bec", func := "loop.example/icecores/laws.FnDepth", spec := "fnDepth", unfollowed := true, recurses := true, apart := false, narrowed := true }
def FnDepthUptoSaid : Prop := fnDepthUptoRow.holds Try.pinned (OpenSpec.upto fnDepthSpec)

/-- 'laws.FnDepthRises', WHERE WHAT IT READS IS OF BULK AT MOST 1048576: true; the input reads as it did. -/
def fnDepthRisesUptoRow : OpenClaim := { program := "ytbjeedeapioljab", sum := "559df8cfef7b4c9813ce8873fa7a4c778c4fa4d9abafa23a1e4df141ae460bec", func := "loop.example/icecores/laws.FnDepthRises", spec := "fnDepthRises", unfollowed := true, recurses := true, apart := false, narrowed := true }
def FnDepthRisesUptoSaid : Prop := fnDepthRisesUptoRow.holds Try.pinned (OpenSpec.upto fnDepthRisesSpec)

/-- 'laws.FnThick', WHERE WHAT IT READS IS OF BULK AT MOST 1048576: true; the input reads as it did. -/
def fnThickUptoRow : OpenClaim := { program := "ytbjeedeapioljab", sum := "559df8cfef7b4c9813ce8873fa7a4c778c4fa4d9abafa23a1e4df141ae460bec", func := "loop.example/icecores/laws.FnThick", spec := "fnThick", unfollowed := true, recurses := true, apart := false, narrowed := true }
def FnThickUptoSaid : Prop := fnThickUptoRow.holds Try.pinned (OpenSpec.upto fnThickSpec)

/-- 'laws.FnThickSure', WHERE WHAT IT READS IS OF BULK AT MOST 1048576: true; the input reads as it did. -/
def fnThickSureUptoRow : OpenClaim := { program := "ytbjeedeapioljab", sum := "559df8cfef7b4c9813ce8873fa7a4c778c4fa4d9abafa23a1e4df141ae460bec", func := "loop.example/icecores/laws.FnThickSure", spec := "fnThickSure", unfollowed := true, recurses := true, apart := false, narrowed := true }
def FnThickSureUptoSaid : Prop := fnThickSureUptoRow.holds Try.pinned (OpenSpec.upto fnThickSureSpec)

/-- 'laws.FnMergeLayersThree', WHERE WHAT IT READS IS OF BULK AT MOST 1048576: true; the input reads as it did. -/
def fnMergeLayersThreeUptoRow : OpenClaim := { program := "ytbjeedeapioljab", sum := "559df8cfef7b4c9813ce8873fa7a4c778c4fa4d9abafa23a1e4df141ae460bec", func := "loop.example/icecores/laws.FnMergeLayersThree", spec := "fnMergeLayersThree", unfollowed := true, recurses := true, apart := false, narrowed := true }
def FnMergeLayersThreeUptoSaid : Prop := fnMergeLayersThreeUptoRow.holds Try.pinned (OpenSpec.upto fnMergeLayersThreeSpec)

/-- 'laws.FnCountWider', WHERE WHAT IT READS IS OF BULK AT MOST 1048576: true; the input reads as it did. -/
def fnCountWiderUptoRow : OpenClaim := { program := "ytbjeedeapioljab", sum := "559df8cfef7b4c9813ce8873fa7a4c778c4fa4d9abafa23a1e4df141ae460bec", func := "loop.example/icecores/laws.FnCountWider", spec := "fnCountWider", unfollowed := true, recurses := true, apart := false, narrowed := true }
def FnCountWiderUptoSaid : Prop := fnCountWiderUptoRow.holds Try.pinned (OpenSpec.upto fnCountWiderSpec)

/-- 'laws.FnHalfSure', WHERE WHAT IT READS IS OF BULK AT MOST 1048576: true; the input reads as it did. -/
def fnHalfSureUptoRow : OpenClaim := { program := "ytbjeedeapioljab", sum := "559df8cfef7b4c9813ce8873fa7a4c778c4fa4d9abafa23a1e4df141ae460bec", func := "loop.example/icecores/laws.FnHalfSure", spec := "fnHalfSure", unfollowed := true, recurses := true, apart := false, narrowed := true }
def FnHalfSureUptoSaid : Prop := fnHalfSureUptoRow.holds Try.pinned (OpenSpec.upto fnHalfSureSpec)

/-- 'laws.FnAgeMerge', WHERE WHAT IT READS IS OF BULK AT MOST 1048576: true; the input reads as it did. -/
def fnAgeMergeUptoRow : OpenClaim := { program := "ytbjeedeapioljab", sum := "559df8cfef7b4c9813ce8873fa7a4c778c4fa4d9abafa23a1e4df141ae460bec", func := "loop.example/icecores/laws.FnAgeMerge", spec := "fnAgeMerge", unfollowed := true, recurses := true, apart := false, narrowed := true }
def FnAgeMergeUptoSaid : Prop := fnAgeMergeUptoRow.holds Try.pinned (OpenSpec.upto fnAgeMergeSpec)

/-- 'laws.FnThickMerge', WHERE WHAT IT READS IS OF BULK AT MOST 1048576: true; the input reads as it did. -/
def fnThickMergeUptoRow : OpenClaim := { program := "ytbjeedeapioljab", sum := "559df8cfef7b4c9813ce8873fa7a4c778c4fa4d9abafa23a1e4df141ae460bec", func := "loop.example/icecores/laws.FnThickMerge", spec := "fnThickMerge", unfollowed := true, recurses := true, apart := false, narrowed := true }
def FnThickMergeUptoSaid : Prop := fnThickMergeUptoRow.holds Try.pinned (OpenSpec.upto fnThickMergeSpec)

end Rows
end Go.Proofs.Ytbjeedeapioljab
