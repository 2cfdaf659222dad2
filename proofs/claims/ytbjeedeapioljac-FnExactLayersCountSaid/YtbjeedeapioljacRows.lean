/-
  No cell of these rows narrows 'for every input' (looked for: loops, veiled, ifaces, maps, wideKeys, modest, calm, conditions, laid).
  DERIVED. THE GIVEN ROWS OF THIS SEAT. 8 by the template 'for every input the law returns true; each argument reads behind the call as it read before'; 0 by the template 'total and deterministic' (their statements: YtbjeedeapioljacTotals.lean).
  GIVEN WITH THE SEED: the statements are not yours to turn. If you find one false, say at which input.
  Laid BY PROGRAM, IN A SANDBOX (cutbox-rows.mjs): the forced cells as the released guide's own fill.sh prints them over the translation 1aa563c9257c382c… (all of the seat's roots in one cut). By AI agents, Wed Nov 11 2026. No macro, syntax, notation, axiom, sorry.
-/
import Derived.Test.YtbjeedeapioljacChecked
import GoSem.Claim
import GoSem.ClaimJoined
import GoSem.ClaimMapViews
import Derived.JoinedTies
import Derived.KernelRfl
namespace Go.Proofs.Ytbjeedeapioljac
/- THE CELL 'sum', in the pinned program and in every row, IS THE sha256 OF THE DUMP (.gsa) THAT YtbjeedeapioljacProg.lean LOADS. Nothing in Lean hashes anything: it is a label: what it is worth is what the hold of that sum in a sandbox is worth. -/
noncomputable def Try.pinned : Pinned := { name := "ytbjeedeapioljac", sum := "1aa563c9257c382c3f9f9a7b593322d70497f2fb29fde3f80aef66dd5137b477", checked := Try.checked }
namespace Rows
def none {H : Type} : Left H := { results := [], args := [] }

/-- 'laws.FnCountNone': WHATEVER THE INPUT: true; the input reads as it did. -/
def fnCountNoneSpec : ChangeSpec := { name := "fnCountNone", fn := fun _ => fun
  | [d] => { results := [.lit (.bool true)], args := [d] }
  | _ => none }
def fnCountNoneRow : OpenClaim := { program := "ytbjeedeapioljac", sum := "1aa563c9257c382c3f9f9a7b593322d70497f2fb29fde3f80aef66dd5137b477", func := "loop.example/icecores/laws.FnCountNone", spec := "fnCountNone", unfollowed := true, recurses := true, apart := false }
def FnCountNoneSaid : Prop := fnCountNoneRow.holds Try.pinned (OpenSpec.ofChange fnCountNoneSpec)

/-- ITS FALSE NEIGHBOUR: 'it returns false'. Refute it at one input. -/
def fnCountNoneWrong : ChangeSpec := { name := "fnCountNone", fn := fun _ => fun
  | [d] => { results := [.lit (.bool false)], args := [d] }
  | _ => none }
def FnCountNoneWrongFalsely : Prop := fnCountNoneRow.holds Try.pinned (OpenSpec.ofChange fnCountNoneWrong)

/-- 'laws.FnExactLayersValid': WHATEVER THE INPUT: true; the input reads as it did. -/
def fnExactLayersValidSpec : ChangeSpec := { name := "fnExactLayersValid", fn := fun _ => fun
  | [d] => { results := [.lit (.bool true)], args := [d] }
  | _ => none }
def fnExactLayersValidRow : OpenClaim := { program := "ytbjeedeapioljac", sum := "1aa563c9257c382c3f9f9a7b593322d70497f2fb29fde3f80aef66dd5137b477", func := "loop.example/icecores/laws.FnExactLayersValid", spec := "fnExactLayersValid", apart := false }
def FnExactLayersValidSaid : Prop := fnExactLayersValidRow.holds Try.pinned (OpenSpec.ofChange fnExactLayersValidSpec)

/-- ITS FALSE NEIGHBOUR: 'it returns false'. Refute it at one input. -/
def fnExactLayersValidWrong : ChangeSpec := { name := "fnExactLayersValid", fn := fun _ => fun
  | [d] => { results := [.lit (.bool false)], args := [d] }
  | _ => none }
def FnExactLayersValidWrongFalsely : Prop := fnExactLayersValidRow.holds Try.pinned (OpenSpec.ofChange fnExactLayersValidWrong)

/-- 'laws.FnExactLayersCount': WHATEVER THE INPUT: true; the input reads as it did. -/
def fnExactLayersCountSpec : ChangeSpec := { name := "fnExactLayersCount", fn := fun _ => fun
  | [d1, d2, d3] => { results := [.lit (.bool true)], args := [d1, d2, d3] }
  | _ => none }
def fnExactLayersCountRow : OpenClaim := { program := "ytbjeedeapioljac", sum := "1aa563c9257c382c3f9f9a7b593322d70497f2fb29fde3f80aef66dd5137b477", func := "loop.example/icecores/laws.FnExactLayersCount", spec := "fnExactLayersCount", unfollowed := true, recurses := true, apart := false }
def FnExactLayersCountSaid : Prop := fnExactLayersCountRow.holds Try.pinned (OpenSpec.ofChange fnExactLayersCountSpec)

/-- ITS FALSE NEIGHBOUR: 'it returns false'. Refute it at one input. -/
def fnExactLayersCountWrong : ChangeSpec := { name := "fnExactLayersCount", fn := fun _ => fun
  | [d1, d2, d3] => { results := [.lit (.bool false)], args := [d1, d2, d3] }
  | _ => none }
def FnExactLayersCountWrongFalsely : Prop := fnExactLayersCountRow.holds Try.pinned (OpenSpec.ofChange fnExactLayersCountWrong)

/-- 'laws.FnExactLayersHalf': WHATEVER THE INPUT: true; the input reads as it did. -/
def fnExactLayersHalfSpec : ChangeSpec := { name := "fnExactLayersHalf", fn := fun _ => fun
  | [d1, d2, d3] => { results := [.lit (.bool true)], args := [d1, d2, d3] }
  | _ => none }
def fnExactLayersHalfRow : OpenClaim := { program := "ytbjeedeapioljac", sum := "1aa563c9257c382c3f9f9a7b593322d70497f2fb29fde3f80aef66dd5137b477", func := "loop.example/icecores/laws.FnExactLayersHalf", spec := "fnExactLayersHalf", unfollowed := true, recurses := true, apart := false }
def FnExactLayersHalfSaid : Prop := fnExactLayersHalfRow.holds Try.pinned (OpenSpec.ofChange fnExactLayersHalfSpec)

/-- ITS FALSE NEIGHBOUR: 'it returns false'. Refute it at one input. -/
def fnExactLayersHalfWrong : ChangeSpec := { name := "fnExactLayersHalf", fn := fun _ => fun
  | [d1, d2, d3] => { results := [.lit (.bool false)], args := [d1, d2, d3] }
  | _ => none }
def FnExactLayersHalfWrongFalsely : Prop := fnExactLayersHalfRow.holds Try.pinned (OpenSpec.ofChange fnExactLayersHalfWrong)

/-- 'laws.FnExactLayersAge': WHATEVER THE INPUT: true; the input reads as it did. -/
def fnExactLayersAgeSpec : ChangeSpec := { name := "fnExactLayersAge", fn := fun _ => fun
  | [d1, d2, d3] => { results := [.lit (.bool true)], args := [d1, d2, d3] }
  | _ => none }
def fnExactLayersAgeRow : OpenClaim := { program := "ytbjeedeapioljac", sum := "1aa563c9257c382c3f9f9a7b593322d70497f2fb29fde3f80aef66dd5137b477", func := "loop.example/icecores/laws.FnExactLayersAge", spec := "fnExactLayersAge", unfollowed := true, recurses := true, apart := false }
def FnExactLayersAgeSaid : Prop := fnExactLayersAgeRow.holds Try.pinned (OpenSpec.ofChange fnExactLayersAgeSpec)

/-- ITS FALSE NEIGHBOUR: 'it returns false'. Refute it at one input. -/
def fnExactLayersAgeWrong : ChangeSpec := { name := "fnExactLayersAge", fn := fun _ => fun
  | [d1, d2, d3] => { results := [.lit (.bool false)], args := [d1, d2, d3] }
  | _ => none }
def FnExactLayersAgeWrongFalsely : Prop := fnExactLayersAgeRow.holds Try.pinned (OpenSpec.ofChange fnExactLayersAgeWrong)

/-- 'laws.FnExactLayersMerge': WHATEVER THE INPUT: true; the input reads as it did. -/
def fnExactLayersMergeSpec : ChangeSpec := { name := "fnExactLayersMerge", fn := fun _ => fun
  | [d1, d2] => { results := [.lit (.bool true)], args := [d1, d2] }
  | _ => none }
def fnExactLayersMergeRow : OpenClaim := { program := "ytbjeedeapioljac", sum := "1aa563c9257c382c3f9f9a7b593322d70497f2fb29fde3f80aef66dd5137b477", func := "loop.example/icecores/laws.FnExactLayersMerge", spec := "fnExactLayersMerge", unfollowed := true, recurses := true, apart := false }
def FnExactLayersMergeSaid : Prop := fnExactLayersMergeRow.holds Try.pinned (OpenSpec.ofChange fnExactLayersMergeSpec)

/-- ITS FALSE NEIGHBOUR: 'it returns false'. Refute it at one input. -/
def fnExactLayersMergeWrong : ChangeSpec := { name := "fnExactLayersMerge", fn := fun _ => fun
  | [d1, d2] => { results := [.lit (.bool false)], args := [d1, d2] }
  | _ => none }
def FnExactLayersMergeWrongFalsely : Prop := fnExactLayersMergeRow.holds Try.pinned (OpenSpec.ofChange fnExactLayersMergeWrong)

/-- 'laws.FnExactLayersDepth': WHATEVER THE INPUT: true; the input reads as it did. -/
def fnExactLayersDepthSpec : ChangeSpec := { name := "fnExactLayersDepth", fn := fun _ => fun
  | [d1, d2] => { results := [.lit (.bool true)], args := [d1, d2] }
  | _ => none }
def fnExactLayersDepthRow : OpenClaim := { program := "ytbjeedeapioljac", sum := "1aa563c9257c382c3f9f9a7b593322d70497f2fb29fde3f80aef66dd5137b477", func := "loop.example/icecores/laws.FnExactLayersDepth", spec := "fnExactLayersDepth", unfollowed := true, recurses := true, apart := false }
def FnExactLayersDepthSaid : Prop := fnExactLayersDepthRow.holds Try.pinned (OpenSpec.ofChange fnExactLayersDepthSpec)

/-- ITS FALSE NEIGHBOUR: 'it returns false'. Refute it at one input. -/
def fnExactLayersDepthWrong : ChangeSpec := { name := "fnExactLayersDepth", fn := fun _ => fun
  | [d1, d2] => { results := [.lit (.bool false)], args := [d1, d2] }
  | _ => none }
def FnExactLayersDepthWrongFalsely : Prop := fnExactLayersDepthRow.holds Try.pinned (OpenSpec.ofChange fnExactLayersDepthWrong)

/-- 'laws.FnExactLayersThick': WHATEVER THE INPUT: true; the input reads as it did. -/
def fnExactLayersThickSpec : ChangeSpec := { name := "fnExactLayersThick", fn := fun _ => fun
  | [d] => { results := [.lit (.bool true)], args := [d] }
  | _ => none }
def fnExactLayersThickRow : OpenClaim := { program := "ytbjeedeapioljac", sum := "1aa563c9257c382c3f9f9a7b593322d70497f2fb29fde3f80aef66dd5137b477", func := "loop.example/icecores/laws.FnExactLayersThick", spec := "fnExactLayersThick", unfollowed := true, recurses := true, apart := false }
def FnExactLayersThickSaid : Prop := fnExactLayersThickRow.holds Try.pinned (OpenSpec.ofChange fnExactLayersThickSpec)

/-- ITS FALSE NEIGHBOUR: 'it returns false'. Refute it at one input. -/
def fnExactLayersThickWrong : ChangeSpec := { name := "fnExactLayersThick", fn := fun _ => fun
  | [d] => { results := [.lit (.bool false)], args := [d] }
  | _ => none }
def FnExactLayersThickWrongFalsely : Prop := fnExactLayersThickRow.holds Try.pinned (OpenSpec.ofChange fnExactLayersThickWrong)

/- THE SECOND FORM. 'bulk': how many values and letters a reading holds, each counted each time it is reached (what is shared counts as often as it is met; a slice's spare places count too). A statement '..UptoSaid' is the law's where the arguments, and the package variables that the reading takes, are together of bulk at most 1048576: NARROWER than '..Said'. Prove '..Said' where nothing that the law and all that it calls make is longer than what came in: it says more and counts as full. Else prove '..UptoSaid'. A law counts once. -/
mutual
def uptoBulk {H : Type} : DataW H → Nat
  | .lit (.string bytes) => bytes.length + 1
  | .lit _ => 1
  | .nil => 1
  | .ptr d => uptoBulk d + 1
  | .slice elems spare => uptoBulkAll elems + uptoBulkAll spare + 1
  | .agg parts => uptoBulkAll parts + 1
  | .iface _ d => uptoBulk d + 1
  | .map entries => uptoBulkEntries entries + 1
  | .held _ => 1
def uptoBulkAll {H : Type} : List (DataW H) → Nat
  | [] => 0
  | d :: r => uptoBulk d + uptoBulkAll r
def uptoBulkEntries {H : Type} : List (Lit × DataW H) → Nat
  | [] => 0
  | x :: r => uptoBulkEntry x + uptoBulkEntries r
def uptoBulkEntry {H : Type} : Lit × DataW H → Nat
  | (.string bytes, d) => bytes.length + uptoBulk d + 1
  | (_, d) => uptoBulk d + 1
 end
def uptoSmall : (H : Type) → List (DataW H) → Bool := fun _ ds => decide (uptoBulkAll ds ≤ 1048576)
def OpenSpec.upto (s : _root_.Go.ChangeSpec) : _root_.Go.OpenSpec := { _root_.Go.OpenSpec.ofChange s with cond := some uptoSmall }

/-- 'laws.FnCountNone', WHERE WHAT IT READS IS OF BULK AT MOST 1048576: true; the input reads as it did. -/
def fnCountNoneUptoRow : OpenClaim := { program := "ytbjeedeapioljac", sum := "1aa563c9257c382c3f9f9a7b593322d70497f2fb29fde3f80aef66dd5137b477", func := "loop.example/icecores/laws.FnCountNone", spec := "fnCountNone", unfollowed := true, recurses := true, apart := false, narrowed := true }
def FnCountNoneUptoSaid : Prop := fnCountNoneUptoRow.holds Try.pinned (OpenSpec.upto fnCountNoneSpec)

/-- 'laws.FnExactLayersValid', WHERE WHAT IT READS IS OF BULK AT MOST 1048576: true; the input reads as it did. -/
def fnExactLayersValidUptoRow : OpenClaim := { program := "ytbjeedeapioljac", sum := "1aa563c9257c382c3f9f9a7b593322d70497f2fb29fde3f80aef66dd5137b477", func := "loop.example/icecores/laws.FnExactLayersValid", spec := "fnExactLayersValid", apart := false, narrowed := true }
def FnExactLayersValidUptoSaid : Prop := fnExactLayersValidUptoRow.holds Try.pinned (OpenSpec.upto fnExactLayersValidSpec)

/-- 'laws.FnExactLayersCount', WHERE WHAT IT READS IS OF BULK AT MOST 1048576: true; the input reads as it did. -/
def fnExactLayersCountUptoRow : OpenClaim := { program := "ytbjeedeapioljac", sum := "1aa563c9257c382c3f9f9a7b593322d70497f2fb29fde3f80aef66dd5137b477", func := "loop.example/icecores/laws.FnExactLayersCount", spec := "fnExactLayersCount", unfollowed := true, recurses := true, apart := false, narrowed := true }
def FnExactLayersCountUptoSaid : Prop := fnExactLayersCountUptoRow.holds Try.pinned (OpenSpec.upto fnExactLayersCountSpec)

/-- 'laws.FnExactLayersHalf', WHERE WHAT IT READS IS OF BULK AT MOST 1048576: true; the input reads as it did. -/
def fnExactLayersHalfUptoRow : OpenClaim := { program := "ytbjeedeapioljac", sum := "1aa563c9257c382c3f9f9a7b593322d70497f2fb29fde3f80aef66dd5137b477", func := "loop.example/icecores/laws.FnExactLayersHalf", spec := "fnExactLayersHalf", unfollowed := true, recurses := true, apart := false, narrowed := true }
def FnExactLayersHalfUptoSaid : Prop := fnExactLayersHalfUptoRow.holds Try.pinned (OpenSpec.upto fnExactLayersHalfSpec)

/-- 'laws.FnExactLayersAge', WHERE WHAT IT READS IS OF BULK AT MOST 1048576: true; the input reads as it did. -/
def fnExactLayersAgeUptoRow : OpenClaim := { program := "ytbjeedeapioljac", sum := "1aa563c9257c382c3f9f9a7b593322d70497f2fb29fde3f80aef66dd5137b477", func := "loop.example/icecores/laws.FnExactLayersAge", spec := "fnExactLayersAge", unfollowed := true, recurses := true, apart := false, narrowed := true }
def FnExactLayersAgeUptoSaid : Prop := fnExactLayersAgeUptoRow.holds Try.pinned (OpenSpec.upto fnExactLayersAgeSpec)

/-- 'laws.FnExactLayersMerge', WHERE WHAT IT READS IS OF BULK AT MOST 1048576: true; the input reads as it did. -/
def fnExactLayersMergeUptoRow : OpenClaim := { program := "ytbjeedeapioljac", sum := "1aa563c9257c382c3f9f9a7b593322d70497f2fb29fde3f80aef66dd5137b477", func := "loop.example/icecores/laws.FnExactLayersMerge", spec := "fnExactLayersMerge", unfollowed := true, recurses := true, apart := false, narrowed := true }
def FnExactLayersMergeUptoSaid : Prop := fnExactLayersMergeUptoRow.holds Try.pinned (OpenSpec.upto fnExactLayersMergeSpec)

/-- 'laws.FnExactLayersDepth', WHERE WHAT IT READS IS OF BULK AT MOST 1048576: true; the input reads as it did. -/
def fnExactLayersDepthUptoRow : OpenClaim := { program := "ytbjeedeapioljac", sum := "1aa563c9257c382c3f9f9a7b593322d70497f2fb29fde3f80aef66dd5137b477", func := "loop.example/icecores/laws.FnExactLayersDepth", spec := "fnExactLayersDepth", unfollowed := true, recurses := true, apart := false, narrowed := true }
def FnExactLayersDepthUptoSaid : Prop := fnExactLayersDepthUptoRow.holds Try.pinned (OpenSpec.upto fnExactLayersDepthSpec)

/-- 'laws.FnExactLayersThick', WHERE WHAT IT READS IS OF BULK AT MOST 1048576: true; the input reads as it did. -/
def fnExactLayersThickUptoRow : OpenClaim := { program := "ytbjeedeapioljac", sum := "1aa563c9257c382c3f9f9a7b593322d70497f2fb29fde3f80aef66dd5137b477", func := "loop.example/icecores/laws.FnExactLayersThick", spec := "fnExactLayersThick", unfollowed := true, recurses := true, apart := false, narrowed := true }
def FnExactLayersThickUptoSaid : Prop := fnExactLayersThickUptoRow.holds Try.pinned (OpenSpec.upto fnExactLayersThickSpec)

end Rows
end Go.Proofs.Ytbjeedeapioljac
