/-
  No cell of these rows narrows 'for every input' (looked for: loops, veiled, ifaces, maps, wideKeys, modest, calm, conditions, laid).
  DERIVED. THE GIVEN ROWS OF THIS SEAT. 9 by the template 'for every input the law returns true; each argument reads behind the call as it read before'; 0 by the template 'total and deterministic' (their statements: YtmibipnkjpkngabTotals.lean).
  GIVEN WITH THE SEED: the statements are not yours to turn. If you find one false, say at which input.
  Laid BY PROGRAM, IN A SANDBOX (cutbox-rows.mjs): the forced cells as the released guide's own fill.sh prints them over the translation e36c146d7ccdf9f6… (all of the seat's roots in one cut). By AI agents, Wed Nov 11 2026. No macro, syntax, notation, axiom, sorry.
-/
import Derived.Test.YtmibipnkjpkngabChecked
import GoSem.Claim
import GoSem.ClaimJoined
import GoSem.ClaimMapViews
import Derived.JoinedTies
import Derived.KernelRfl
namespace Go.Proofs.Ytmibipnkjpkngab
/- THE CELL 'sum', in the pinned program and in every row, IS THE sha256 OF THE DUMP (.gsa) THAT YtmibipnkjpkngabProg.lean LOADS. Nothing in Lean hashes anything: it is a label: what it is worth is what the hold of that sum in a sandbox is worth. -/
noncomputable def Try.pinned : Pinned := { name := "ytmibipnkjpkngab", sum := "e36c146d7ccdf9f6e4097d8b842e0ce9a8ea6871368789edd0ab7c7859d3aadc", checked := Try.checked }
namespace Rows
def none {H : Type} : Left H := { results := [], args := [] }

/-- 'laws.FnMatchBestAny': WHATEVER THE INPUT: true; the input reads as it did. -/
def fnMatchBestAnySpec : ChangeSpec := { name := "fnMatchBestAny", fn := fun _ => fun
  | [d] => { results := [.lit (.bool true)], args := [d] }
  | _ => none }
def fnMatchBestAnyRow : OpenClaim := { program := "ytmibipnkjpkngab", sum := "e36c146d7ccdf9f6e4097d8b842e0ce9a8ea6871368789edd0ab7c7859d3aadc", func := "loop.example/icecores/laws.FnMatchBestAny", spec := "fnMatchBestAny", recurses := true, plainKeys := false, apart := false }
def FnMatchBestAnySaid : Prop := fnMatchBestAnyRow.holds Try.pinned (OpenSpec.ofChange fnMatchBestAnySpec)

/-- ITS FALSE NEIGHBOUR: 'it returns false'. Refute it at one input. -/
def fnMatchBestAnyWrong : ChangeSpec := { name := "fnMatchBestAny", fn := fun _ => fun
  | [d] => { results := [.lit (.bool false)], args := [d] }
  | _ => none }
def FnMatchBestAnyWrongFalsely : Prop := fnMatchBestAnyRow.holds Try.pinned (OpenSpec.ofChange fnMatchBestAnyWrong)

/-- 'laws.FnMatchCount': WHATEVER THE INPUT: true; the input reads as it did. -/
def fnMatchCountSpec : ChangeSpec := { name := "fnMatchCount", fn := fun _ => fun
  | [d] => { results := [.lit (.bool true)], args := [d] }
  | _ => none }
def fnMatchCountRow : OpenClaim := { program := "ytmibipnkjpkngab", sum := "e36c146d7ccdf9f6e4097d8b842e0ce9a8ea6871368789edd0ab7c7859d3aadc", func := "loop.example/icecores/laws.FnMatchCount", spec := "fnMatchCount", recurses := true, plainKeys := false, apart := false }
def FnMatchCountSaid : Prop := fnMatchCountRow.holds Try.pinned (OpenSpec.ofChange fnMatchCountSpec)

/-- ITS FALSE NEIGHBOUR: 'it returns false'. Refute it at one input. -/
def fnMatchCountWrong : ChangeSpec := { name := "fnMatchCount", fn := fun _ => fun
  | [d] => { results := [.lit (.bool false)], args := [d] }
  | _ => none }
def FnMatchCountWrongFalsely : Prop := fnMatchCountRow.holds Try.pinned (OpenSpec.ofChange fnMatchCountWrong)

/-- 'laws.FnMatchCountLast': WHATEVER THE INPUT: true; the input reads as it did. -/
def fnMatchCountLastSpec : ChangeSpec := { name := "fnMatchCountLast", fn := fun _ => fun
  | [d] => { results := [.lit (.bool true)], args := [d] }
  | _ => none }
def fnMatchCountLastRow : OpenClaim := { program := "ytmibipnkjpkngab", sum := "e36c146d7ccdf9f6e4097d8b842e0ce9a8ea6871368789edd0ab7c7859d3aadc", func := "loop.example/icecores/laws.FnMatchCountLast", spec := "fnMatchCountLast", recurses := true, plainKeys := false, apart := false }
def FnMatchCountLastSaid : Prop := fnMatchCountLastRow.holds Try.pinned (OpenSpec.ofChange fnMatchCountLastSpec)

/-- ITS FALSE NEIGHBOUR: 'it returns false'. Refute it at one input. -/
def fnMatchCountLastWrong : ChangeSpec := { name := "fnMatchCountLast", fn := fun _ => fun
  | [d] => { results := [.lit (.bool false)], args := [d] }
  | _ => none }
def FnMatchCountLastWrongFalsely : Prop := fnMatchCountLastRow.holds Try.pinned (OpenSpec.ofChange fnMatchCountLastWrong)

/-- 'laws.FnMatchCountMore': WHATEVER THE INPUT: true; the input reads as it did. -/
def fnMatchCountMoreSpec : ChangeSpec := { name := "fnMatchCountMore", fn := fun _ => fun
  | [d] => { results := [.lit (.bool true)], args := [d] }
  | _ => none }
def fnMatchCountMoreRow : OpenClaim := { program := "ytmibipnkjpkngab", sum := "e36c146d7ccdf9f6e4097d8b842e0ce9a8ea6871368789edd0ab7c7859d3aadc", func := "loop.example/icecores/laws.FnMatchCountMore", spec := "fnMatchCountMore", recurses := true, plainKeys := false, apart := false }
def FnMatchCountMoreSaid : Prop := fnMatchCountMoreRow.holds Try.pinned (OpenSpec.ofChange fnMatchCountMoreSpec)

/-- ITS FALSE NEIGHBOUR: 'it returns false'. Refute it at one input. -/
def fnMatchCountMoreWrong : ChangeSpec := { name := "fnMatchCountMore", fn := fun _ => fun
  | [d] => { results := [.lit (.bool false)], args := [d] }
  | _ => none }
def FnMatchCountMoreWrongFalsely : Prop := fnMatchCountMoreRow.holds Try.pinned (OpenSpec.ofChange fnMatchCountMoreWrong)

/-- 'laws.FnMatchMostAdd': WHATEVER THE INPUT: true; the input reads as it did. -/
def fnMatchMostAddSpec : ChangeSpec := { name := "fnMatchMostAdd", fn := fun _ => fun
  | [d1, d2] => { results := [.lit (.bool true)], args := [d1, d2] }
  | _ => none }
def fnMatchMostAddRow : OpenClaim := { program := "ytmibipnkjpkngab", sum := "e36c146d7ccdf9f6e4097d8b842e0ce9a8ea6871368789edd0ab7c7859d3aadc", func := "loop.example/icecores/laws.FnMatchMostAdd", spec := "fnMatchMostAdd", recurses := true, plainKeys := false, apart := false }
def FnMatchMostAddSaid : Prop := fnMatchMostAddRow.holds Try.pinned (OpenSpec.ofChange fnMatchMostAddSpec)

/-- ITS FALSE NEIGHBOUR: 'it returns false'. Refute it at one input. -/
def fnMatchMostAddWrong : ChangeSpec := { name := "fnMatchMostAdd", fn := fun _ => fun
  | [d1, d2] => { results := [.lit (.bool false)], args := [d1, d2] }
  | _ => none }
def FnMatchMostAddWrongFalsely : Prop := fnMatchMostAddRow.holds Try.pinned (OpenSpec.ofChange fnMatchMostAddWrong)

/-- 'laws.FnEventsDepth': WHATEVER THE INPUT: true; the input reads as it did. -/
def fnEventsDepthSpec : ChangeSpec := { name := "fnEventsDepth", fn := fun _ => fun
  | [d] => { results := [.lit (.bool true)], args := [d] }
  | _ => none }
def fnEventsDepthRow : OpenClaim := { program := "ytmibipnkjpkngab", sum := "e36c146d7ccdf9f6e4097d8b842e0ce9a8ea6871368789edd0ab7c7859d3aadc", func := "loop.example/icecores/laws.FnEventsDepth", spec := "fnEventsDepth", recurses := true, plainKeys := false, apart := false }
def FnEventsDepthSaid : Prop := fnEventsDepthRow.holds Try.pinned (OpenSpec.ofChange fnEventsDepthSpec)

/-- ITS FALSE NEIGHBOUR: 'it returns false'. Refute it at one input. -/
def fnEventsDepthWrong : ChangeSpec := { name := "fnEventsDepth", fn := fun _ => fun
  | [d] => { results := [.lit (.bool false)], args := [d] }
  | _ => none }
def FnEventsDepthWrongFalsely : Prop := fnEventsDepthRow.holds Try.pinned (OpenSpec.ofChange fnEventsDepthWrong)

/-- 'laws.FnMatchNone': WHATEVER THE INPUT: true; the input reads as it did. -/
def fnMatchNoneSpec : ChangeSpec := { name := "fnMatchNone", fn := fun _ => fun
  | [d] => { results := [.lit (.bool true)], args := [d] }
  | _ => none }
def fnMatchNoneRow : OpenClaim := { program := "ytmibipnkjpkngab", sum := "e36c146d7ccdf9f6e4097d8b842e0ce9a8ea6871368789edd0ab7c7859d3aadc", func := "loop.example/icecores/laws.FnMatchNone", spec := "fnMatchNone", recurses := true, plainKeys := false, apart := false }
def FnMatchNoneSaid : Prop := fnMatchNoneRow.holds Try.pinned (OpenSpec.ofChange fnMatchNoneSpec)

/-- ITS FALSE NEIGHBOUR: 'it returns false'. Refute it at one input. -/
def fnMatchNoneWrong : ChangeSpec := { name := "fnMatchNone", fn := fun _ => fun
  | [d] => { results := [.lit (.bool false)], args := [d] }
  | _ => none }
def FnMatchNoneWrongFalsely : Prop := fnMatchNoneRow.holds Try.pinned (OpenSpec.ofChange fnMatchNoneWrong)

/-- 'laws.FnExactEventsValid': WHATEVER THE INPUT: true; the input reads as it did. -/
def fnExactEventsValidSpec : ChangeSpec := { name := "fnExactEventsValid", fn := fun _ => fun
  | [d] => { results := [.lit (.bool true)], args := [d] }
  | _ => none }
def fnExactEventsValidRow : OpenClaim := { program := "ytmibipnkjpkngab", sum := "e36c146d7ccdf9f6e4097d8b842e0ce9a8ea6871368789edd0ab7c7859d3aadc", func := "loop.example/icecores/laws.FnExactEventsValid", spec := "fnExactEventsValid", plainKeys := false, apart := false }
def FnExactEventsValidSaid : Prop := fnExactEventsValidRow.holds Try.pinned (OpenSpec.ofChange fnExactEventsValidSpec)

/-- ITS FALSE NEIGHBOUR: 'it returns false'. Refute it at one input. -/
def fnExactEventsValidWrong : ChangeSpec := { name := "fnExactEventsValid", fn := fun _ => fun
  | [d] => { results := [.lit (.bool false)], args := [d] }
  | _ => none }
def FnExactEventsValidWrongFalsely : Prop := fnExactEventsValidRow.holds Try.pinned (OpenSpec.ofChange fnExactEventsValidWrong)

/-- 'laws.FnExactMatchOk': WHATEVER THE INPUT: true; the input reads as it did. -/
def fnExactMatchOkSpec : ChangeSpec := { name := "fnExactMatchOk", fn := fun _ => fun
  | [d1, d2, d3, d4] => { results := [.lit (.bool true)], args := [d1, d2, d3, d4] }
  | _ => none }
def fnExactMatchOkRow : OpenClaim := { program := "ytmibipnkjpkngab", sum := "e36c146d7ccdf9f6e4097d8b842e0ce9a8ea6871368789edd0ab7c7859d3aadc", func := "loop.example/icecores/laws.FnExactMatchOk", spec := "fnExactMatchOk", plainKeys := false, apart := false }
def FnExactMatchOkSaid : Prop := fnExactMatchOkRow.holds Try.pinned (OpenSpec.ofChange fnExactMatchOkSpec)

/-- ITS FALSE NEIGHBOUR: 'it returns false'. Refute it at one input. -/
def fnExactMatchOkWrong : ChangeSpec := { name := "fnExactMatchOk", fn := fun _ => fun
  | [d1, d2, d3, d4] => { results := [.lit (.bool false)], args := [d1, d2, d3, d4] }
  | _ => none }
def FnExactMatchOkWrongFalsely : Prop := fnExactMatchOkRow.holds Try.pinned (OpenSpec.ofChange fnExactMatchOkWrong)

/- THE SECOND FORM. 'bulk': how many values and letters a reading holds, each counted each time it is reached (what is shared counts as often as it is met; a slice's spare places count too). A statement '..UptoSaid' is the law's where the arguments, and the package variables that the reading takes, are together of bulk at most 1048576: NARROWER than '..Said'. Prove '..Said' where nothing that the law and all that it calls make is longer than what came in: it says more and counts as full. Else prove '..UptoSaid'. A law counts once. -/
mutual
def uptoBulk {H : Type} : DataW H → Nat
  | .lit (.string bytes) => bytes.length + 1
  | .lit _ => 1
  | .nil => 1
  | .ptr d => uptoBulk d + 1
  | .slice elems spare => uptoBulkAll elems + uptoBulkAll spare + 1
  | .agg parts => uptoBulkAll parts + 1
  | .iface _ d => uptoBulk d + 1
  | .map entries => uptoBulkEntries entries + 1
  | .held _ => 1
def uptoBulkAll {H : Type} : List (DataW H) → Nat
  | [] => 0
  | d :: r => uptoBulk d + uptoBulkAll r
def uptoBulkEntries {H : Type} : List (Lit × DataW H) → Nat
  | [] => 0
  | x :: r => uptoBulkEntry x + uptoBulkEntries r
def uptoBulkEntry {H : Type} : Lit × DataW H → Nat
  | (.string bytes, d) => bytes.length + uptoBulk d + 1
  | (_, d) => uptoBulk d + 1
 end
def uptoSmall : (H : Type) → List (DataW H) → Bool := fun _ ds => decide (uptoBulkAll ds ≤ 1048576)
def OpenSpec.upto (s : _root_.Go.ChangeSpec) : _root_.Go.OpenSpec := { _root_.Go.OpenSpec.ofChange s with cond := some uptoSmall }

/-- 'laws.FnMatchBestAny', WHERE WHAT IT READS IS OF BULK AT MOST 1048576: true; the input reads as it did. -/
def fnMatchBestAnyUptoRow : OpenClaim := { program := "ytmibipnkjpkngab", sum := "e36c146d7ccdf9f6e4097d8b842e0ce9a8ea6871368789edd0ab7c7859d3aadc", func := "loop.example/icecores/laws.FnMatchBestAny", spec := "fnMatchBestAny", recurses := true, plainKeys := false, apart := false, narrowed := true }
def FnMatchBestAnyUptoSaid : Prop := fnMatchBestAnyUptoRow.holds Try.pinned (OpenSpec.upto fnMatchBestAnySpec)

/-- 'laws.FnMatchCount', WHERE WHAT IT READS IS OF BULK AT MOST 1048576: true; the input reads as it did. -/
def fnMatchCountUptoRow : OpenClaim := { program := "ytmibipnkjpkngab", sum := "e36c146d7ccdf9f6e4097d8b842e0ce9a8ea6871368789edd0ab7c7859d3aadc", func := "loop.example/icecores/laws.FnMatchCount", spec := "fnMatchCount", recurses := true, plainKeys := false, apart := false, narrowed := true }
def FnMatchCountUptoSaid : Prop := fnMatchCountUptoRow.holds Try.pinned (OpenSpec.upto fnMatchCountSpec)

/-- 'laws.FnMatchCountLast', WHERE WHAT IT READS IS OF BULK AT MOST 1048576: true; the input reads as it did. -/
def fnMatchCountLastUptoRow : OpenClaim := { program := "ytmibipnkjpkngab", sum := "e36c146d7ccdf9f6e4097d8b842e0ce9a8ea6871368789edd0ab7c7859d3aadc", func := "loop.example/icecores/laws.FnMatchCountLast", spec := "fnMatchCountLast", recurses := true, plainKeys := false, apart := false, narrowed := true }
def FnMatchCountLastUptoSaid : Prop := fnMatchCountLastUptoRow.holds Try.pinned (OpenSpec.upto fnMatchCountLastSpec)

/-- 'laws.FnMatchCountMore', WHERE WHAT IT READS IS OF BULK AT MOST 1048576: true; the input reads as it did. -/
def fnMatchCountMoreUptoRow : OpenClaim := { program := "ytmibipnkjpkngab", sum := "e36c146d7ccdf9f6e4097d8b842e0ce9a8ea6871368789edd0ab7c7859d3aadc", func := "loop.example/icecores/laws.FnMatchCountMore", spec := "fnMatchCountMore", recurses := true, plainKeys := false, apart := false, narrowed := true }
def FnMatchCountMoreUptoSaid : Prop := fnMatchCountMoreUptoRow.holds Try.pinned (OpenSpec.upto fnMatchCountMoreSpec)

/-- 'laws.FnMatchMostAdd', WHERE WHAT IT READS IS OF BULK AT MOST 1048576: true; the input reads as it did. -/
def fnMatchMostAddUptoRow : OpenClaim := { program := "ytmibipnkjpkngab", sum := "e36c146d7ccdf9f6e4097d8b842e0ce9a8ea6871368789edd0ab7c7859d3aadc", func := "loop.example/icecores/laws.FnMatchMostAdd", spec := "fnMatchMostAdd", recurses := true, plainKeys := false, apart := false, narrowed := true }
def FnMatchMostAddUptoSaid : Prop := fnMatchMostAddUptoRow.holds Try.pinned (OpenSpec.upto fnMatchMostAddSpec)

/-- 'laws.FnEventsDepth', WHERE WHAT IT READS IS OF BULK AT MOST 1048576: true; the input reads as it did. -/
def fnEventsDepthUptoRow : OpenClaim := { program := "ytmibipnkjpkngab", sum := "e36c146d7ccdf9f6e4097d8b842e0ce9a8ea6871368789edd0ab7c7859d3aadc", func := "loop.example/icecores/laws.FnEventsDepth", spec := "fnEventsDepth", recurses := true, plainKeys := false, apart := false, narrowed := true }
def FnEventsDepthUptoSaid : Prop := fnEventsDepthUptoRow.holds Try.pinned (OpenSpec.upto fnEventsDepthSpec)

/-- 'laws.FnMatchNone', WHERE WHAT IT READS IS OF BULK AT MOST 1048576: true; the input reads as it did. -/
def fnMatchNoneUptoRow : OpenClaim := { program := "ytmibipnkjpkngab", sum := "e36c146d7ccdf9f6e4097d8b842e0ce9a8ea6871368789edd0ab7c7859d3aadc", func := "loop.example/icecores/laws.FnMatchNone", spec := "fnMatchNone", recurses := true, plainKeys := false, apart := false, narrowed := true }
def FnMatchNoneUptoSaid : Prop := fnMatchNoneUptoRow.holds Try.pinned (OpenSpec.upto fnMatchNoneSpec)

/-- 'laws.FnExactEventsValid', WHERE WHAT IT READS IS OF BULK AT MOST 1048576: true; the input reads as it did. -/
def fnExactEventsValidUptoRow : OpenClaim := { program := "ytmibipnkjpkngab", sum := "e36c146d7ccdf9f6e4097d8b842e0ce9a8ea6871368789edd0ab7c7859d3aadc", func := "loop.example/icecores/laws.FnExactEventsValid", spec := "fnExactEventsValid", plainKeys := false, apart := false, narrowed := true }
def FnExactEventsValidUptoSaid : Prop := fnExactEventsValidUptoRow.holds Try.pinned (OpenSpec.upto fnExactEventsValidSpec)

/-- 'laws.FnExactMatchOk', WHERE WHAT IT READS IS OF BULK AT MOST 1048576: true; the input reads as it did. -/
def fnExactMatchOkUptoRow : OpenClaim := { program := "ytmibipnkjpkngab", sum := "e36c146d7ccdf9f6e4097d8b842e0ce9a8ea6871368789edd0ab7c7859d3aadc", func := "loop.example/icecores/laws.FnExactMatchOk", spec := "fnExactMatchOk", plainKeys := false, apart := false, narrowed := true }
def FnExactMatchOkUptoSaid : Prop := fnExactMatchOkUptoRow.holds Try.pinned (OpenSpec.upto fnExactMatchOkSpec)

end Rows
end Go.Proofs.Ytmibipnkjpkngab
