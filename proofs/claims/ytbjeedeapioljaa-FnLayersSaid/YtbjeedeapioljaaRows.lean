/-
  No cell of these rows narrows 'for every input' (looked for: loops, veiled, ifaces, maps, wideKeys, modest, calm, conditions, laid).
  DERIVED. THE GIVEN ROWS OF THIS SEAT. 9 by the template 'for every input the law returns true; each argument reads behind the call as it read before'; 0 by the template 'total and deterministic' (their statements: YtbjeedeapioljaaTotals.lean).
  GIVEN WITH THE SEED: the statements are not yours to turn. If you find one false, say at which input.
  Laid BY PROGRAM, IN A SANDBOX (cutbox-rows.mjs): the forced cells as the released guide's own fill.sh prints them over the translation 98672bacf2553581… (all of the seat's roots in one cut). By AI agents, Wed Nov 11 2026. No macro, syntax, notation, axiom, sorry.
-/
import Derived.Test.YtbjeedeapioljaaChecked
import GoSem.Claim
import GoSem.ClaimJoined
import GoSem.ClaimMapViews
import Derived.JoinedTies
import Derived.KernelRfl
namespace Go.Proofs.Ytbjeedeapioljaa
/- THE CELL 'sum', in the pinned program and in every row, IS THE sha256 OF THE DUMP (.gsa) THAT YtbjeedeapioljaaProg.lean LOADS. Nothing in Lean hashes anything: it is a label: what it is worth is what the hold of that sum in a sandbox is worth. -/
noncomputable def Try.pinned : Pinned := { name := "ytbjeedeapioljaa", sum := "98672bacf25535812c7cea7ededc16838abfbb73ffa87acb0558a8367e5f9a66", checked := Try.checked }
namespace Rows
def none {H : Type} : Left H := { results := [], args := [] }

/-- 'laws.FnLayers': WHATEVER THE INPUT: true; the input reads as it did. -/
def fnLayersSpec : ChangeSpec := { name := "fnLayers", fn := fun _ => fun
  | [d1, d2] => { results := [.lit (.bool true)], args := [d1, d2] }
  | _ => none }
def fnLayersRow : OpenClaim := { program := "ytbjeedeapioljaa", sum := "98672bacf25535812c7cea7ededc16838abfbb73ffa87acb0558a8367e5f9a66", func := "loop.example/icecores/laws.FnLayers", spec := "fnLayers", apart := false }
def FnLayersSaid : Prop := fnLayersRow.holds Try.pinned (OpenSpec.ofChange fnLayersSpec)

/-- ITS FALSE NEIGHBOUR: 'it returns false'. Refute it at one input. -/
def fnLayersWrong : ChangeSpec := { name := "fnLayers", fn := fun _ => fun
  | [d1, d2] => { results := [.lit (.bool false)], args := [d1, d2] }
  | _ => none }
def FnLayersWrongFalsely : Prop := fnLayersRow.holds Try.pinned (OpenSpec.ofChange fnLayersWrong)

/-- 'laws.FnCount': WHATEVER THE INPUT: true; the input reads as it did. -/
def fnCountSpec : ChangeSpec := { name := "fnCount", fn := fun _ => fun
  | [d1, d2] => { results := [.lit (.bool true)], args := [d1, d2] }
  | _ => none }
def fnCountRow : OpenClaim := { program := "ytbjeedeapioljaa", sum := "98672bacf25535812c7cea7ededc16838abfbb73ffa87acb0558a8367e5f9a66", func := "loop.example/icecores/laws.FnCount", spec := "fnCount", unfollowed := true, recurses := true, apart := false }
def FnCountSaid : Prop := fnCountRow.holds Try.pinned (OpenSpec.ofChange fnCountSpec)

/-- ITS FALSE NEIGHBOUR: 'it returns false'. Refute it at one input. -/
def fnCountWrong : ChangeSpec := { name := "fnCount", fn := fun _ => fun
  | [d1, d2] => { results := [.lit (.bool false)], args := [d1, d2] }
  | _ => none }
def FnCountWrongFalsely : Prop := fnCountRow.holds Try.pinned (OpenSpec.ofChange fnCountWrong)

/-- 'laws.FnCountSure': WHATEVER THE INPUT: true; the input reads as it did. -/
def fnCountSureSpec : ChangeSpec := { name := "fnCountSure", fn := fun _ => fun
  | [d] => { results := [.lit (.bool true)], args := [d] }
  | _ => none }
def fnCountSureRow : OpenClaim := { program := "ytbjeedeapioljaa", sum := "98672bacf25535812c7cea7ededc16838abfbb73ffa87acb0558a8367e5f9a66", func := "loop.example/icecores/laws.FnCountSure", spec := "fnCountSure", unfollowed := true, recurses := true, apart := false }
def FnCountSureSaid : Prop := fnCountSureRow.holds Try.pinned (OpenSpec.ofChange fnCountSureSpec)

/-- ITS FALSE NEIGHBOUR: 'it returns false'. Refute it at one input. -/
def fnCountSureWrong : ChangeSpec := { name := "fnCountSure", fn := fun _ => fun
  | [d] => { results := [.lit (.bool false)], args := [d] }
  | _ => none }
def FnCountSureWrongFalsely : Prop := fnCountSureRow.holds Try.pinned (OpenSpec.ofChange fnCountSureWrong)

/-- 'laws.FnHalf': WHATEVER THE INPUT: true; the input reads as it did. -/
def fnHalfSpec : ChangeSpec := { name := "fnHalf", fn := fun _ => fun
  | [d1, d2] => { results := [.lit (.bool true)], args := [d1, d2] }
  | _ => none }
def fnHalfRow : OpenClaim := { program := "ytbjeedeapioljaa", sum := "98672bacf25535812c7cea7ededc16838abfbb73ffa87acb0558a8367e5f9a66", func := "loop.example/icecores/laws.FnHalf", spec := "fnHalf", unfollowed := true, recurses := true, apart := false }
def FnHalfSaid : Prop := fnHalfRow.holds Try.pinned (OpenSpec.ofChange fnHalfSpec)

/-- ITS FALSE NEIGHBOUR: 'it returns false'. Refute it at one input. -/
def fnHalfWrong : ChangeSpec := { name := "fnHalf", fn := fun _ => fun
  | [d1, d2] => { results := [.lit (.bool false)], args := [d1, d2] }
  | _ => none }
def FnHalfWrongFalsely : Prop := fnHalfRow.holds Try.pinned (OpenSpec.ofChange fnHalfWrong)

/-- 'laws.FnAge': WHATEVER THE INPUT: true; the input reads as it did. -/
def fnAgeSpec : ChangeSpec := { name := "fnAge", fn := fun _ => fun
  | [d] => { results := [.lit (.bool true)], args := [d] }
  | _ => none }
def fnAgeRow : OpenClaim := { program := "ytbjeedeapioljaa", sum := "98672bacf25535812c7cea7ededc16838abfbb73ffa87acb0558a8367e5f9a66", func := "loop.example/icecores/laws.FnAge", spec := "fnAge", unfollowed := true, recurses := true, apart := false }
def FnAgeSaid : Prop := fnAgeRow.holds Try.pinned (OpenSpec.ofChange fnAgeSpec)

/-- ITS FALSE NEIGHBOUR: 'it returns false'. Refute it at one input. -/
def fnAgeWrong : ChangeSpec := { name := "fnAge", fn := fun _ => fun
  | [d] => { results := [.lit (.bool false)], args := [d] }
  | _ => none }
def FnAgeWrongFalsely : Prop := fnAgeRow.holds Try.pinned (OpenSpec.ofChange fnAgeWrong)

/-- 'laws.FnAgeCount': WHATEVER THE INPUT: true; the input reads as it did. -/
def fnAgeCountSpec : ChangeSpec := { name := "fnAgeCount", fn := fun _ => fun
  | [d1, d2] => { results := [.lit (.bool true)], args := [d1, d2] }
  | _ => none }
def fnAgeCountRow : OpenClaim := { program := "ytbjeedeapioljaa", sum := "98672bacf25535812c7cea7ededc16838abfbb73ffa87acb0558a8367e5f9a66", func := "loop.example/icecores/laws.FnAgeCount", spec := "fnAgeCount", unfollowed := true, recurses := true, apart := false }
def FnAgeCountSaid : Prop := fnAgeCountRow.holds Try.pinned (OpenSpec.ofChange fnAgeCountSpec)

/-- ITS FALSE NEIGHBOUR: 'it returns false'. Refute it at one input. -/
def fnAgeCountWrong : ChangeSpec := { name := "fnAgeCount", fn := fun _ => fun
  | [d1, d2] => { results := [.lit (.bool false)], args := [d1, d2] }
  | _ => none }
def FnAgeCountWrongFalsely : Prop := fnAgeCountRow.holds Try.pinned (OpenSpec.ofChange fnAgeCountWrong)

/-- 'laws.FnMergeLayers': WHATEVER THE INPUT: true; the input reads as it did. -/
def fnMergeLayersSpec : ChangeSpec := { name := "fnMergeLayers", fn := fun _ => fun
  | [d] => { results := [.lit (.bool true)], args := [d] }
  | _ => none }
def fnMergeLayersRow : OpenClaim := { program := "ytbjeedeapioljaa", sum := "98672bacf25535812c7cea7ededc16838abfbb73ffa87acb0558a8367e5f9a66", func := "loop.example/icecores/laws.FnMergeLayers", spec := "fnMergeLayers", unfollowed := true, recurses := true, apart := false }
def FnMergeLayersSaid : Prop := fnMergeLayersRow.holds Try.pinned (OpenSpec.ofChange fnMergeLayersSpec)

/-- ITS FALSE NEIGHBOUR: 'it returns false'. Refute it at one input. -/
def fnMergeLayersWrong : ChangeSpec := { name := "fnMergeLayers", fn := fun _ => fun
  | [d] => { results := [.lit (.bool false)], args := [d] }
  | _ => none }
def FnMergeLayersWrongFalsely : Prop := fnMergeLayersRow.holds Try.pinned (OpenSpec.ofChange fnMergeLayersWrong)

/-- 'laws.FnMergeLayersCount': WHATEVER THE INPUT: true; the input reads as it did. -/
def fnMergeLayersCountSpec : ChangeSpec := { name := "fnMergeLayersCount", fn := fun _ => fun
  | [d1, d2] => { results := [.lit (.bool true)], args := [d1, d2] }
  | _ => none }
def fnMergeLayersCountRow : OpenClaim := { program := "ytbjeedeapioljaa", sum := "98672bacf25535812c7cea7ededc16838abfbb73ffa87acb0558a8367e5f9a66", func := "loop.example/icecores/laws.FnMergeLayersCount", spec := "fnMergeLayersCount", unfollowed := true, recurses := true, apart := false }
def FnMergeLayersCountSaid : Prop := fnMergeLayersCountRow.holds Try.pinned (OpenSpec.ofChange fnMergeLayersCountSpec)

/-- ITS FALSE NEIGHBOUR: 'it returns false'. Refute it at one input. -/
def fnMergeLayersCountWrong : ChangeSpec := { name := "fnMergeLayersCount", fn := fun _ => fun
  | [d1, d2] => { results := [.lit (.bool false)], args := [d1, d2] }
  | _ => none }
def FnMergeLayersCountWrongFalsely : Prop := fnMergeLayersCountRow.holds Try.pinned (OpenSpec.ofChange fnMergeLayersCountWrong)

/-- 'laws.FnMergeLayersAgain': WHATEVER THE INPUT: true; the input reads as it did. -/
def fnMergeLayersAgainSpec : ChangeSpec := { name := "fnMergeLayersAgain", fn := fun _ => fun
  | [d] => { results := [.lit (.bool true)], args := [d] }
  | _ => none }
def fnMergeLayersAgainRow : OpenClaim := { program := "ytbjeedeapioljaa", sum := "98672bacf25535812c7cea7ededc16838abfbb73ffa87acb0558a8367e5f9a66", func := "loop.example/icecores/laws.FnMergeLayersAgain", spec := "fnMergeLayersAgain", unfollowed := true, recurses := true, apart := false }
def FnMergeLayersAgainSaid : Prop := fnMergeLayersAgainRow.holds Try.pinned (OpenSpec.ofChange fnMergeLayersAgainSpec)

/-- ITS FALSE NEIGHBOUR: 'it returns false'. Refute it at one input. -/
def fnMergeLayersAgainWrong : ChangeSpec := { name := "fnMergeLayersAgain", fn := fun _ => fun
  | [d] => { results := [.lit (.bool false)], args := [d] }
  | _ => none }
def FnMergeLayersAgainWrongFalsely : Prop := fnMergeLayersAgainRow.holds Try.pinned (OpenSpec.ofChange fnMergeLayersAgainWrong)

/- THE SECOND FORM. 'bulk': how many values and letters a reading holds, each counted each time it is reached (what is shared counts as often as it is met; a slice's spare places count too). A statement '..UptoSaid' is the law's where the arguments, and the package variables that the reading takes, are together of bulk at most 1048576: NARROWER than '..Said'. Prove '..Said' where nothing that the law and all that it calls make is longer than what came in: it says more and counts as full. Else prove '..UptoSaid'. A law counts once. -/
mutual
def uptoBulk {H : Type} : DataW H → Nat
  | .lit (.string bytes) => bytes.length + 1
  | .lit _ => 1
  | .nil => 1
  | .ptr d => uptoBulk d + 1
  | .slice elems spare => uptoBulkAll elems + uptoBulkAll spare + 1
  | .agg parts => uptoBulkAll parts + 1
  | .iface _ d => uptoBulk d + 1
  | .map entries => uptoBulkEntries entries + 1
  | .held _ => 1
def uptoBulkAll {H : Type} : List (DataW H) → Nat
  | [] => 0
  | d :: r => uptoBulk d + uptoBulkAll r
def uptoBulkEntries {H : Type} : List (Lit × DataW H) → Nat
  | [] => 0
  | x :: r => uptoBulkEntry x + uptoBulkEntries r
def uptoBulkEntry {H : Type} : Lit × DataW H → Nat
  | (.string bytes, d) => bytes.length + uptoBulk d + 1
  | (_, d) => uptoBulk d + 1
 end
def uptoSmall : (H : Type) → List (DataW H) → Bool := fun _ ds => decide (uptoBulkAll ds ≤ 1048576)
def OpenSpec.upto (s : _root_.Go.ChangeSpec) : _root_.Go.OpenSpec := { _root_.Go.OpenSpec.ofChange s with cond := some uptoSmall }

/-- 'laws.FnLayers', WHERE WHAT IT READS IS OF BULK AT MOST 1048576: true; the input reads as it did. -/
def fnLayersUptoRow : OpenClaim := { program := "ytbjeedeapioljaa", sum := "98672bacf25535812c7cea7ededc16838abfbb73ffa87acb0558a8367e5f9a66", func := "loop.example/icecores/laws.FnLayers", spec := "fnLayers", apart := false, narrowed := true }
def FnLayersUptoSaid : Prop := fnLayersUptoRow.holds Try.pinned (OpenSpec.upto fnLayersSpec)

/-- 'laws.FnCount', WHERE WHAT IT READS IS OF BULK AT MOST 1048576: true; the input reads as it did. -/
def fnCountUptoRow : OpenClaim := { program := "ytbjeedeapioljaa", sum := "98672bacf25535812c7cea7ededc16838abfbb73ffa87acb0558a8367e5f9a66", func := "loop.example/icecores/laws.FnCount", spec := "fnCount", unfollowed := true, recurses := true, apart := false, narrowed := true }
def FnCountUptoSaid : Prop := fnCountUptoRow.holds Try.pinned (OpenSpec.upto fnCountSpec)

/-- 'laws.FnCountSure', WHERE WHAT IT READS IS OF BULK AT MOST 1048576: true; the input reads as it did. -/
def fnCountSureUptoRow : OpenClaim := { program := "ytbjeedeapioljaa", sum := "98672bacf25535812c7cea7ededc16838abfbb73ffa87acb0558a8367e5f9a66", func := "loop.example/icecores/laws.FnCountSure", spec := "fnCountSure", unfollowed := true, recurses := true, apart := false, narrowed := true }
def FnCountSureUptoSaid : Prop := fnCountSureUptoRow.holds Try.pinned (OpenSpec.upto fnCountSureSpec)

/-- 'laws.FnHalf', WHERE WHAT IT READS IS OF BULK AT MOST 1048576: true; the input reads as it did. -/
def fnHalfUptoRow : OpenClaim := { program := "ytbjeedeapioljaa", sum := "98672bacf25535812c7cea7ededc16838abfbb73ffa87acb0558a8367e5f9a66", func := "loop.example/icecores/laws.FnHalf", spec := "fnHalf", unfollowed := true, recurses := true, apart := false, narrowed := true }
def FnHalfUptoSaid : Prop := fnHalfUptoRow.holds Try.pinned (OpenSpec.upto fnHalfSpec)

/-- 'laws.FnAge', WHERE WHAT IT READS IS OF BULK AT MOST 1048576: true; the input reads as it did. -/
def fnAgeUptoRow : OpenClaim := { program := "ytbjeedeapioljaa", sum := "98672bacf25535812c7cea7ededc16838abfbb73ffa87acb0558a8367e5f9a66", func := "loop.example/icecores/laws.FnAge", spec := "fnAge", unfollowed := true, recurses := true, apart := false, narrowed := true }
def FnAgeUptoSaid : Prop := fnAgeUptoRow.holds Try.pinned (OpenSpec.upto fnAgeSpec)

/-- 'laws.FnAgeCount', WHERE WHAT IT READS IS OF BULK AT MOST 1048576: true; the input reads as it did. -/
def fnAgeCountUptoRow : OpenClaim := { program := "ytbjeedeapioljaa", sum := "98672bacf25535812c7cea7ededc16838abfbb73ffa87acb0558a8367e5f9a66", func := "loop.example/icecores/laws.FnAgeCount", spec := "fnAgeCount", unfollowed := true, recurses := true, apart := false, narrowed := true }
def FnAgeCountUptoSaid : Prop := fnAgeCountUptoRow.holds Try.pinned (OpenSpec.upto fnAgeCountSpec)

/-- 'laws.FnMergeLayers', WHERE WHAT IT READS IS OF BULK AT MOST 1048576: true; the input reads as it did. -/
def fnMergeLayersUptoRow : OpenClaim := { program := "ytbjeedeapioljaa", sum := "98672bacf25535812c7cea7ededc16838abfbb73ffa87acb0558a8367e5f9a66", func := "loop.example/icecores/laws.FnMergeLayers", spec := "fnMergeLayers", unfollowed := true, recurses := true, apart := false, narrowed := true }
def FnMergeLayersUptoSaid : Prop := fnMergeLayersUptoRow.holds Try.pinned (OpenSpec.upto fnMergeLayersSpec)

/-- 'laws.FnMergeLayersCount', WHERE WHAT IT READS IS OF BULK AT MOST 1048576: true; the input reads as it did. -/
def fnMergeLayersCountUptoRow : OpenClaim := { program := "ytbjeedeapioljaa", sum := "98672bacf25535812c7cea7ededc16838abfbb73ffa87acb0558a8367e5f9a66", func := "loop.example/icecores/laws.FnMergeLayersCount", spec := "fnMergeLayersCount", unfollowed := true, recurses := true, apart := false, narrowed := true }
def FnMergeLayersCountUptoSaid : Prop := fnMergeLayersCountUptoRow.holds Try.pinned (OpenSpec.upto fnMergeLayersCountSpec)

/-- 'laws.FnMergeLayersAgain', WHERE WHAT IT READS IS OF BULK AT MOST 1048576: true; the input reads as it did. -/
def fnMergeLayersAgainUptoRow : OpenClaim := { program := "ytbjeedeapioljaa", sum := "98672bacf25535812c7cea7ededc16838abfbb73ffa87acb0558a8367e5f9a66", func := "loop.example/icecores/laws.FnMergeLayersAgain", spec := "fnMergeLayersAgain", unfollowed := true, recurses := true, apart := false, narrowed := true }
def FnMergeLayersAgainUptoSaid : Prop := fnMergeLayersAgainUptoRow.holds Try.pinned (OpenSpec.upto fnMergeLayersAgainSpec)

end Rows
end Go.Proofs.Ytbjeedeapioljaa
