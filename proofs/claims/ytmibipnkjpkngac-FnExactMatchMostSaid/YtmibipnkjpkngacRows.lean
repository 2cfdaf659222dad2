/-
  No cell of these rows narrows 'for every input' (looked for: loops, veiled, ifaces, maps, wideKeys, modest, calm, conditions, laid).
  DERIVED. THE GIVEN ROWS OF THIS SEAT. 4 by the template 'for every input the law returns true; each argument reads behind the call as it read before'; 0 by the template 'total and deterministic' (their statements: YtmibipnkjpkngacTotals.lean).
  GIVEN WITH THE SEED: the statements are not yours to turn. If you find one false, say at which input.
  Laid BY PROGRAM, IN A SANDBOX (cutbox-rows.mjs): the forced cells as the released guide's own fill.sh prints them over the translation a04c8ea679bc7b7f… (all of the seat's roots in one cut). By AI agents, Wed Nov 11 2026. No macro, syntax, notation, axiom, sorry.
-/
import Derived.Test.YtmibipnkjpkngacChecked
import GoSem.Claim
import GoSem.ClaimJoined
import GoSem.ClaimMapViews
import Derived.JoinedTies
import Derived.KernelRfl
namespace Go.Proofs.Ytmibipnkjpkngac
/- THE CELL 'sum', in the pinned program and in every row, IS THE sha256 OF THE DUMP (.gsa) THAT YtmibipnkjpkngacProg.lean LOADS. Nothing in Lean hashes anything: it is a label: what it is worth is what the hold of that sum in a sandbox is worth. -/
noncomputable def Try.pinned : Pinned := { name := "ytmibipnkjpkngac", sum := "a04c8ea679bc7b7f6f41c75c7c96bfd9652eb24cfb1c7fdc69b4d2cbad66735c", checked := Try.checked }
namespace Rows
def none {H : Type} : Left H := { results := [], args := [] }

/-- 'laws.FnExactMatchMany': WHATEVER THE INPUT: true; the input reads as it did. -/
def fnExactMatchManySpec : ChangeSpec := { name := "fnExactMatchMany", fn := fun _ => fun
  | [d1, d2, d3, d4] => { results := [.lit (.bool true)], args := [d1, d2, d3, d4] }
  | _ => none }
def fnExactMatchManyRow : OpenClaim := { program := "ytmibipnkjpkngac", sum := "a04c8ea679bc7b7f6f41c75c7c96bfd9652eb24cfb1c7fdc69b4d2cbad66735c", func := "loop.example/icecores/laws.FnExactMatchMany", spec := "fnExactMatchMany", plainKeys := false, apart := false }
def FnExactMatchManySaid : Prop := fnExactMatchManyRow.holds Try.pinned (OpenSpec.ofChange fnExactMatchManySpec)

/-- ITS FALSE NEIGHBOUR: 'it returns false'. Refute it at one input. -/
def fnExactMatchManyWrong : ChangeSpec := { name := "fnExactMatchMany", fn := fun _ => fun
  | [d1, d2, d3, d4] => { results := [.lit (.bool false)], args := [d1, d2, d3, d4] }
  | _ => none }
def FnExactMatchManyWrongFalsely : Prop := fnExactMatchManyRow.holds Try.pinned (OpenSpec.ofChange fnExactMatchManyWrong)

/-- 'laws.FnExactMatchMost': WHATEVER THE INPUT: true; the input reads as it did. -/
def fnExactMatchMostSpec : ChangeSpec := { name := "fnExactMatchMost", fn := fun _ => fun
  | [d1, d2, d3] => { results := [.lit (.bool true)], args := [d1, d2, d3] }
  | _ => none }
def fnExactMatchMostRow : OpenClaim := { program := "ytmibipnkjpkngac", sum := "a04c8ea679bc7b7f6f41c75c7c96bfd9652eb24cfb1c7fdc69b4d2cbad66735c", func := "loop.example/icecores/laws.FnExactMatchMost", spec := "fnExactMatchMost", recurses := true, plainKeys := false, apart := false }
def FnExactMatchMostSaid : Prop := fnExactMatchMostRow.holds Try.pinned (OpenSpec.ofChange fnExactMatchMostSpec)

/-- ITS FALSE NEIGHBOUR: 'it returns false'. Refute it at one input. -/
def fnExactMatchMostWrong : ChangeSpec := { name := "fnExactMatchMost", fn := fun _ => fun
  | [d1, d2, d3] => { results := [.lit (.bool false)], args := [d1, d2, d3] }
  | _ => none }
def FnExactMatchMostWrongFalsely : Prop := fnExactMatchMostRow.holds Try.pinned (OpenSpec.ofChange fnExactMatchMostWrong)

/-- 'laws.FnExactMatchBest': WHATEVER THE INPUT: true; the input reads as it did. -/
def fnExactMatchBestSpec : ChangeSpec := { name := "fnExactMatchBest", fn := fun _ => fun
  | [d1, d2, d3] => { results := [.lit (.bool true)], args := [d1, d2, d3] }
  | _ => none }
def fnExactMatchBestRow : OpenClaim := { program := "ytmibipnkjpkngac", sum := "a04c8ea679bc7b7f6f41c75c7c96bfd9652eb24cfb1c7fdc69b4d2cbad66735c", func := "loop.example/icecores/laws.FnExactMatchBest", spec := "fnExactMatchBest", recurses := true, plainKeys := false, apart := false }
def FnExactMatchBestSaid : Prop := fnExactMatchBestRow.holds Try.pinned (OpenSpec.ofChange fnExactMatchBestSpec)

/-- ITS FALSE NEIGHBOUR: 'it returns false'. Refute it at one input. -/
def fnExactMatchBestWrong : ChangeSpec := { name := "fnExactMatchBest", fn := fun _ => fun
  | [d1, d2, d3] => { results := [.lit (.bool false)], args := [d1, d2, d3] }
  | _ => none }
def FnExactMatchBestWrongFalsely : Prop := fnExactMatchBestRow.holds Try.pinned (OpenSpec.ofChange fnExactMatchBestWrong)

/-- 'laws.FnExactMatchCount': WHATEVER THE INPUT: true; the input reads as it did. -/
def fnExactMatchCountSpec : ChangeSpec := { name := "fnExactMatchCount", fn := fun _ => fun
  | [d1, d2, d3] => { results := [.lit (.bool true)], args := [d1, d2, d3] }
  | _ => none }
def fnExactMatchCountRow : OpenClaim := { program := "ytmibipnkjpkngac", sum := "a04c8ea679bc7b7f6f41c75c7c96bfd9652eb24cfb1c7fdc69b4d2cbad66735c", func := "loop.example/icecores/laws.FnExactMatchCount", spec := "fnExactMatchCount", recurses := true, plainKeys := false, apart := false }
def FnExactMatchCountSaid : Prop := fnExactMatchCountRow.holds Try.pinned (OpenSpec.ofChange fnExactMatchCountSpec)

/-- ITS FALSE NEIGHBOUR: 'it returns false'. Refute it at one input. -/
def fnExactMatchCountWrong : ChangeSpec := { name := "fnExactMatchCount", fn := fun _ => fun
  | [d1, d2, d3] => { results := [.lit (.bool false)], args := [d1, d2, d3] }
  | _ => none }
def FnExactMatchCountWrongFalsely : Prop := fnExactMatchCountRow.holds Try.pinned (OpenSpec.ofChange fnExactMatchCountWrong)

/- THE SECOND FORM. 'bulk': how many values and letters a reading holds, each counted each time it is reached (what is shared counts as often as it is met; a slice's spare places count too). A statement '..UptoSaid' is the law's where the arguments, and the package variables that the reading takes, are together of bulk at most 1048576: NARROWER than '..Said'. Prove '..Said' where nothing that the law and all that it calls make is longer than what came in: it says more and counts as full. Else prove '..UptoSaid'. A law counts once. -/
mutual
def uptoBulk {H : Type} : DataW H → Nat
  | .lit (.string bytes) => bytes.length + 1
  | .lit _ => 1
  | .nil => 1
  | .ptr d => uptoBulk d + 1
  | .slice elems spare => uptoBulkAll elems + uptoBulkAll spare + 1
  | .agg parts => uptoBulkAll parts + 1
  | .iface _ d => uptoBulk d + 1
  | .map entries => uptoBulkEntries entries + 1
  | .held _ => 1
def uptoBulkAll {H : Type} : List (DataW H) → Nat
  | [] => 0
  | d :: r => uptoBulk d + uptoBulkAll r
def uptoBulkEntries {H : Type} : List (Lit × DataW H) → Nat
  | [] => 0
  | x :: r => uptoBulkEntry x + uptoBulkEntries r
def uptoBulkEntry {H : Type} : Lit × DataW H → Nat
  | (.string bytes, d) => bytes.length + uptoBulk d + 1
  | (_, d) => uptoBulk d + 1
 end
def uptoSmall : (H : Type) → List (DataW H) → Bool := fun _ ds => decide (uptoBulkAll ds ≤ 1048576)
def OpenSpec.upto (s : _root_.Go.ChangeSpec) : _root_.Go.OpenSpec := { _root_.Go.OpenSpec.ofChange s with cond := some uptoSmall }

/-- 'laws.FnExactMatchMany', WHERE WHAT IT READS IS OF BULK AT MOST 1048576: true; the input reads as it did. -/
def fnExactMatchManyUptoRow : OpenClaim := { program := "ytmibipnkjpkngac", sum := "a04c8ea679bc7b7f6f41c75c7c96bfd9652eb24cfb1c7fdc69b4d2cbad66735c", func := "loop.example/icecores/laws.FnExactMatchMany", spec := "fnExactMatchMany", plainKeys := false, apart := false, narrowed := true }
def FnExactMatchManyUptoSaid : Prop := fnExactMatchManyUptoRow.holds Try.pinned (OpenSpec.upto fnExactMatchManySpec)

/-- 'laws.FnExactMatchMost', WHERE WHAT IT READS IS OF BULK AT MOST 1048576: true; the input reads as it did. -/
def fnExactMatchMostUptoRow : OpenClaim := { program := "ytmibipnkjpkngac", sum := "a04c8ea679bc7b7f6f41c75c7c96bfd9652eb24cfb1c7fdc69b4d2cbad66735c", func := "loop.example/icecores/laws.FnExactMatchMost", spec := "fnExactMatchMost", recurses := true, plainKeys := false, apart := false, narrowed := true }
def FnExactMatchMostUptoSaid : Prop := fnExactMatchMostUptoRow.holds Try.pinned (OpenSpec.upto fnExactMatchMostSpec)

/-- 'laws.FnExactMatchBest', WHERE WHAT IT READS IS OF BULK AT MOST 1048576: true; the input reads as it did. -/
def fnExactMatchBestUptoRow : OpenClaim := { program := "ytmibipnkjpkngac", sum := "a04c8ea679bc7b7f6f41c75c7c96bfd9652eb24cfb1c7fdc69b4d2cbad66735c", func := "loop.example/icecores/laws.FnExactMatchBest", spec := "fnExactMatchBest", recurses := true, plainKeys := false, apart := false, narrowed := true }
def FnExactMatchBestUptoSaid : Prop := fnExactMatchBestUptoRow.holds Try.pinned (OpenSpec.upto fnExactMatchBestSpec)

/-- 'laws.FnExactMatchCount', WHERE WHAT IT READS IS OF BULK AT MOST 1048576: true; the input reads as it did. -/
def fnExactMatchCountUptoRow : OpenClaim := { program := "ytmibipnkjpkngac", sum := "a04c8ea679bc7b7f6f41c75c7c96bfd9652eb24cfb1c7fdc69b4d2cbad66735c", func := "loop.example/icecores/laws.FnExactMatchCount", spec := "fnExactMatchCount", recurses := true, plainKeys := false, apart := false, narrowed := true }
def FnExactMatchCountUptoSaid : Prop := fnExactMatchCountUptoRow.holds Try.pinned (OpenSpec.upto fnExactMatchCountSpec)

end Rows
end Go.Proofs.Ytmibipnkjpkngac
