/-
  No cell of these rows narrows 'for every input' (looked for: loops, veiled, ifaces, maps, wideKeys, modest, calm, conditions, laid).
  DERIVED. THE GIVEN ROWS OF THIS SEAT. 9 by the template 'for every input the law returns true; each argument reads behind the call as it read before'; 0 by the template 'total and deterministic' (their statements: YtmibipnkjpkngaaTotals.lean).
  GIVEN WITH THE SEED: the statements are not yours to turn. If you find one false, say at which input.
  Laid BY PROGRAM, IN A SANDBOX (cutbox-rows.mjs): the forced cells as the released guide's own fill.sh prints them over the translation 52a0b8c8de498453… (all of the seat's roots in one cut). By AI agents, Wed Nov 11 2026. No macro, syntax, notation, axiom, sorry.
-/
import Derived.Test.YtmibipnkjpkngaaChecked
import GoSem.Claim
import GoSem.ClaimJoined
import GoSem.ClaimMapViews
import Derived.JoinedTies
import Derived.KernelRfl
namespace Go.Proofs.Ytmibipnkjpkngaa
/- THE CELL 'sum', in the pinned program and in every row, IS THE sha256 OF THE DUMP (.gsa) THAT YtmibipnkjpkngaaProg.lean LOADS. Nothing in Lean hashes anything: it is a label: what it is worth is what the hold of that sum in a sandbox is worth. -/
noncomputable def Try.pinned : Pinned := { name := "ytmibipnkjpkngaa", sum := "52a0b8c8de498453d6fa5792ca274462bf0ef9199b97d58fb426ebe4f1e480a5", checked := Try.checked }
namespace Rows
def none {H : Type} : Left H := { results := [], args := [] }

/-- 'laws.FnEvents': WHATEVER THE INPUT: true; the input reads as it did. -/
def fnEventsSpec : ChangeSpec := { name := "fnEvents", fn := fun _ => fun
  | [d1, d2] => { results := [.lit (.bool true)], args := [d1, d2] }
  | _ => none }
def fnEventsRow : OpenClaim := { program := "ytmibipnkjpkngaa", sum := "52a0b8c8de498453d6fa5792ca274462bf0ef9199b97d58fb426ebe4f1e480a5", func := "loop.example/icecores/laws.FnEvents", spec := "fnEvents", plainKeys := false, apart := false }
def FnEventsSaid : Prop := fnEventsRow.holds Try.pinned (OpenSpec.ofChange fnEventsSpec)

/-- ITS FALSE NEIGHBOUR: 'it returns false'. Refute it at one input. -/
def fnEventsWrong : ChangeSpec := { name := "fnEvents", fn := fun _ => fun
  | [d1, d2] => { results := [.lit (.bool false)], args := [d1, d2] }
  | _ => none }
def FnEventsWrongFalsely : Prop := fnEventsRow.holds Try.pinned (OpenSpec.ofChange fnEventsWrong)

/-- 'laws.FnMatch': WHATEVER THE INPUT: true; the input reads as it did. -/
def fnMatchSpec : ChangeSpec := { name := "fnMatch", fn := fun _ => fun
  | [d1, d2] => { results := [.lit (.bool true)], args := [d1, d2] }
  | _ => none }
def fnMatchRow : OpenClaim := { program := "ytmibipnkjpkngaa", sum := "52a0b8c8de498453d6fa5792ca274462bf0ef9199b97d58fb426ebe4f1e480a5", func := "loop.example/icecores/laws.FnMatch", spec := "fnMatch", plainKeys := false, apart := false }
def FnMatchSaid : Prop := fnMatchRow.holds Try.pinned (OpenSpec.ofChange fnMatchSpec)

/-- ITS FALSE NEIGHBOUR: 'it returns false'. Refute it at one input. -/
def fnMatchWrong : ChangeSpec := { name := "fnMatch", fn := fun _ => fun
  | [d1, d2] => { results := [.lit (.bool false)], args := [d1, d2] }
  | _ => none }
def FnMatchWrongFalsely : Prop := fnMatchRow.holds Try.pinned (OpenSpec.ofChange fnMatchWrong)

/-- 'laws.FnMatchTurn': WHATEVER THE INPUT: true; the input reads as it did. -/
def fnMatchTurnSpec : ChangeSpec := { name := "fnMatchTurn", fn := fun _ => fun
  | [d] => { results := [.lit (.bool true)], args := [d] }
  | _ => none }
def fnMatchTurnRow : OpenClaim := { program := "ytmibipnkjpkngaa", sum := "52a0b8c8de498453d6fa5792ca274462bf0ef9199b97d58fb426ebe4f1e480a5", func := "loop.example/icecores/laws.FnMatchTurn", spec := "fnMatchTurn", plainKeys := false, apart := false }
def FnMatchTurnSaid : Prop := fnMatchTurnRow.holds Try.pinned (OpenSpec.ofChange fnMatchTurnSpec)

/-- ITS FALSE NEIGHBOUR: 'it returns false'. Refute it at one input. -/
def fnMatchTurnWrong : ChangeSpec := { name := "fnMatchTurn", fn := fun _ => fun
  | [d] => { results := [.lit (.bool false)], args := [d] }
  | _ => none }
def FnMatchTurnWrongFalsely : Prop := fnMatchTurnRow.holds Try.pinned (OpenSpec.ofChange fnMatchTurnWrong)

/-- 'laws.FnMatchMany': WHATEVER THE INPUT: true; the input reads as it did. -/
def fnMatchManySpec : ChangeSpec := { name := "fnMatchMany", fn := fun _ => fun
  | [d] => { results := [.lit (.bool true)], args := [d] }
  | _ => none }
def fnMatchManyRow : OpenClaim := { program := "ytmibipnkjpkngaa", sum := "52a0b8c8de498453d6fa5792ca274462bf0ef9199b97d58fb426ebe4f1e480a5", func := "loop.example/icecores/laws.FnMatchMany", spec := "fnMatchMany", recurses := true, plainKeys := false, apart := false }
def FnMatchManySaid : Prop := fnMatchManyRow.holds Try.pinned (OpenSpec.ofChange fnMatchManySpec)

/-- ITS FALSE NEIGHBOUR: 'it returns false'. Refute it at one input. -/
def fnMatchManyWrong : ChangeSpec := { name := "fnMatchMany", fn := fun _ => fun
  | [d] => { results := [.lit (.bool false)], args := [d] }
  | _ => none }
def FnMatchManyWrongFalsely : Prop := fnMatchManyRow.holds Try.pinned (OpenSpec.ofChange fnMatchManyWrong)

/-- 'laws.FnMatchMost': WHATEVER THE INPUT: true; the input reads as it did. -/
def fnMatchMostSpec : ChangeSpec := { name := "fnMatchMost", fn := fun _ => fun
  | [d] => { results := [.lit (.bool true)], args := [d] }
  | _ => none }
def fnMatchMostRow : OpenClaim := { program := "ytmibipnkjpkngaa", sum := "52a0b8c8de498453d6fa5792ca274462bf0ef9199b97d58fb426ebe4f1e480a5", func := "loop.example/icecores/laws.FnMatchMost", spec := "fnMatchMost", recurses := true, plainKeys := false, apart := false }
def FnMatchMostSaid : Prop := fnMatchMostRow.holds Try.pinned (OpenSpec.ofChange fnMatchMostSpec)

/-- ITS FALSE NEIGHBOUR: 'it returns false'. Refute it at one input. -/
def fnMatchMostWrong : ChangeSpec := { name := "fnMatchMost", fn := fun _ => fun
  | [d] => { results := [.lit (.bool false)], args := [d] }
  | _ => none }
def FnMatchMostWrongFalsely : Prop := fnMatchMostRow.holds Try.pinned (OpenSpec.ofChange fnMatchMostWrong)

/-- 'laws.FnMatchMostLess': WHATEVER THE INPUT: true; the input reads as it did. -/
def fnMatchMostLessSpec : ChangeSpec := { name := "fnMatchMostLess", fn := fun _ => fun
  | [d] => { results := [.lit (.bool true)], args := [d] }
  | _ => none }
def fnMatchMostLessRow : OpenClaim := { program := "ytmibipnkjpkngaa", sum := "52a0b8c8de498453d6fa5792ca274462bf0ef9199b97d58fb426ebe4f1e480a5", func := "loop.example/icecores/laws.FnMatchMostLess", spec := "fnMatchMostLess", recurses := true, plainKeys := false, apart := false }
def FnMatchMostLessSaid : Prop := fnMatchMostLessRow.holds Try.pinned (OpenSpec.ofChange fnMatchMostLessSpec)

/-- ITS FALSE NEIGHBOUR: 'it returns false'. Refute it at one input. -/
def fnMatchMostLessWrong : ChangeSpec := { name := "fnMatchMostLess", fn := fun _ => fun
  | [d] => { results := [.lit (.bool false)], args := [d] }
  | _ => none }
def FnMatchMostLessWrongFalsely : Prop := fnMatchMostLessRow.holds Try.pinned (OpenSpec.ofChange fnMatchMostLessWrong)

/-- 'laws.FnMatchSelf': WHATEVER THE INPUT: true; the input reads as it did. -/
def fnMatchSelfSpec : ChangeSpec := { name := "fnMatchSelf", fn := fun _ => fun
  | [d] => { results := [.lit (.bool true)], args := [d] }
  | _ => none }
def fnMatchSelfRow : OpenClaim := { program := "ytmibipnkjpkngaa", sum := "52a0b8c8de498453d6fa5792ca274462bf0ef9199b97d58fb426ebe4f1e480a5", func := "loop.example/icecores/laws.FnMatchSelf", spec := "fnMatchSelf", recurses := true, plainKeys := false, apart := false }
def FnMatchSelfSaid : Prop := fnMatchSelfRow.holds Try.pinned (OpenSpec.ofChange fnMatchSelfSpec)

/-- ITS FALSE NEIGHBOUR: 'it returns false'. Refute it at one input. -/
def fnMatchSelfWrong : ChangeSpec := { name := "fnMatchSelf", fn := fun _ => fun
  | [d] => { results := [.lit (.bool false)], args := [d] }
  | _ => none }
def FnMatchSelfWrongFalsely : Prop := fnMatchSelfRow.holds Try.pinned (OpenSpec.ofChange fnMatchSelfWrong)

/-- 'laws.FnMatchBest': WHATEVER THE INPUT: true; the input reads as it did. -/
def fnMatchBestSpec : ChangeSpec := { name := "fnMatchBest", fn := fun _ => fun
  | [d] => { results := [.lit (.bool true)], args := [d] }
  | _ => none }
def fnMatchBestRow : OpenClaim := { program := "ytmibipnkjpkngaa", sum := "52a0b8c8de498453d6fa5792ca274462bf0ef9199b97d58fb426ebe4f1e480a5", func := "loop.example/icecores/laws.FnMatchBest", spec := "fnMatchBest", recurses := true, plainKeys := false, apart := false }
def FnMatchBestSaid : Prop := fnMatchBestRow.holds Try.pinned (OpenSpec.ofChange fnMatchBestSpec)

/-- ITS FALSE NEIGHBOUR: 'it returns false'. Refute it at one input. -/
def fnMatchBestWrong : ChangeSpec := { name := "fnMatchBest", fn := fun _ => fun
  | [d] => { results := [.lit (.bool false)], args := [d] }
  | _ => none }
def FnMatchBestWrongFalsely : Prop := fnMatchBestRow.holds Try.pinned (OpenSpec.ofChange fnMatchBestWrong)

/-- 'laws.FnMatchBestFirst': WHATEVER THE INPUT: true; the input reads as it did. -/
def fnMatchBestFirstSpec : ChangeSpec := { name := "fnMatchBestFirst", fn := fun _ => fun
  | [d] => { results := [.lit (.bool true)], args := [d] }
  | _ => none }
def fnMatchBestFirstRow : OpenClaim := { program := "ytmibipnkjpkngaa", sum := "52a0b8c8de498453d6fa5792ca274462bf0ef9199b97d58fb426ebe4f1e480a5", func := "loop.example/icecores/laws.FnMatchBestFirst", spec := "fnMatchBestFirst", recurses := true, plainKeys := false, apart := false }
def FnMatchBestFirstSaid : Prop := fnMatchBestFirstRow.holds Try.pinned (OpenSpec.ofChange fnMatchBestFirstSpec)

/-- ITS FALSE NEIGHBOUR: 'it returns false'. Refute it at one input. -/
def fnMatchBestFirstWrong : ChangeSpec := { name := "fnMatchBestFirst", fn := fun _ => fun
  | [d] => { results := [.lit (.bool false)], args := [d] }
  | _ => none }
def FnMatchBestFirstWrongFalsely : Prop := fnMatchBestFirstRow.holds Try.pinned (OpenSpec.ofChange fnMatchBestFirstWrong)

/- THE SECOND FORM. 'bulk': how many values and letters a reading holds, each counted each time it is reached (what is shared counts as often as it is met; a slice's spare places count too). A statement '..UptoSaid' is the law's where the arguments, and the package variables that the reading takes, are together of bulk at most 1048576: NARROWER than '..Said'. Prove '..Said' where nothing that the law and all that it calls make is longer than what came in: it says more and counts as full. Else prove '..UptoSaid'. A law counts once. -/
mutual
def uptoBulk {H : Type} : DataW H → Nat
  | .lit (.string bytes) => bytes.length + 1
  | .lit _ => 1
  | .nil => 1
  | .ptr d => uptoBulk d + 1
  | .slice elems spare => uptoBulkAll elems + uptoBulkAll spare + 1
  | .agg parts => uptoBulkAll parts + 1
  | .iface _ d => uptoBulk d + 1
  | .map entries => uptoBulkEntries entries + 1
  | .held _ => 1
def uptoBulkAll {H : Type} : List (DataW H) → Nat
  | [] => 0
  | d :: r => uptoBulk d + uptoBulkAll r
def uptoBulkEntries {H : Type} : List (Lit × DataW H) → Nat
  | [] => 0
  | x :: r => uptoBulkEntry x + uptoBulkEntries r
def uptoBulkEntry {H : Type} : Lit × DataW H → Nat
  | (.string bytes, d) => bytes.length + uptoBulk d + 1
  | (_, d) => uptoBulk d + 1
 end
def uptoSmall : (H : Type) → List (DataW H) → Bool := fun _ ds => decide (uptoBulkAll ds ≤ 1048576)
def OpenSpec.upto (s : _root_.Go.ChangeSpec) : _root_.Go.OpenSpec := { _root_.Go.OpenSpec.ofChange s with cond := some uptoSmall }

/-- 'laws.FnEvents', WHERE WHAT IT READS IS OF BULK AT MOST 1048576: true; the input reads as it did. -/
def fnEventsUptoRow : OpenClaim := { program := "ytmibipnkjpkngaa", sum := "52a0b8c8de498453d6fa5792ca274462bf0ef9199b97d58fb426ebe4f1e480a5", func := "loop.example/icecores/laws.FnEvents", spec := "fnEvents", plainKeys := false, apart := false, narrowed := true }
def FnEventsUptoSaid : Prop := fnEventsUptoRow.holds Try.pinned (OpenSpec.upto fnEventsSpec)

/-- 'laws.FnMatch', WHERE WHAT IT READS IS OF BULK AT MOST 1048576: true; the input reads as it did. -/
def fnMatchUptoRow : OpenClaim := { program := "ytmibipnkjpkngaa", sum := "52a0b8c8de498453d6fa5792ca274462bf0ef9199b97d58fb426ebe4f1e480a5", func := "loop.example/icecores/laws.FnMatch", spec := "fnMatch", plainKeys := false, apart := false, narrowed := true }
def FnMatchUptoSaid : Prop := fnMatchUptoRow.holds Try.pinned (OpenSpec.upto fnMatchSpec)

/-- 'laws.FnMatchTurn', WHERE WHAT IT READS IS OF BULK AT MOST 1048576: true; the input reads as it did. -/
def fnMatchTurnUptoRow : OpenClaim := { program := "ytmibipnkjpkngaa", sum := "52a0b8c8de498453d6fa5792ca274462bf0ef9199b97d58fb426ebe4f1e480a5", func := "loop.example/icecores/laws.FnMatchTurn", spec := "fnMatchTurn", plainKeys := false, apart := false, narrowed := true }
def FnMatchTurnUptoSaid : Prop := fnMatchTurnUptoRow.holds Try.pinned (OpenSpec.upto fnMatchTurnSpec)

/-- 'laws.FnMatchMany', WHERE WHAT IT READS IS OF BULK AT MOST 1048576: true; the input reads as it did. -/
def fnMatchManyUptoRow : OpenClaim := { program := "ytmibipnkjpkngaa", sum := "52a0b8c8de498453d6fa5792ca274462bf0ef9199b97d58fb426ebe4f1e480a5", func := "loop.example/icecores/laws.FnMatchMany", spec := "fnMatchMany", recurses := true, plainKeys := false, apart := false, narrowed := true }
def FnMatchManyUptoSaid : Prop := fnMatchManyUptoRow.holds Try.pinned (OpenSpec.upto fnMatchManySpec)

/-- 'laws.FnMatchMost', WHERE WHAT IT READS IS OF BULK AT MOST 1048576: true; the input reads as it did. -/
def fnMatchMostUptoRow : OpenClaim := { program := "ytmibipnkjpkngaa", sum := "52a0b8c8de498453d6fa5792ca274462bf0ef9199b97d58fb426ebe4f1e480a5", func := "loop.example/icecores/laws.FnMatchMost", spec := "fnMatchMost", recurses := true, plainKeys := false, apart := false, narrowed := true }
def FnMatchMostUptoSaid : Prop := fnMatchMostUptoRow.holds Try.pinned (OpenSpec.upto fnMatchMostSpec)

/-- 'laws.FnMatchMostLess', WHERE WHAT IT READS IS OF BULK AT MOST 1048576: true; the input reads as it did. -/
def fnMatchMostLessUptoRow : OpenClaim := { program := "ytmibipnkjpkngaa", sum := "52a0b8c8de498453d6fa5792ca274462bf0ef9199b97d58fb426ebe4f1e480a5", func := "loop.example/icecores/laws.FnMatchMostLess", spec := "fnMatchMostLess", recurses := true, plainKeys := false, apart := false, narrowed := true }
def FnMatchMostLessUptoSaid : Prop := fnMatchMostLessUptoRow.holds Try.pinned (OpenSpec.upto fnMatchMostLessSpec)

/-- 'laws.FnMatchSelf', WHERE WHAT IT READS IS OF BULK AT MOST 1048576: true; the input reads as it did. -/
def fnMatchSelfUptoRow : OpenClaim := { program := "ytmibipnkjpkngaa", sum := "52a0b8c8de498453d6fa5792ca274462bf0ef9199b97d58fb426ebe4f1e480a5", func := "loop.example/icecores/laws.FnMatchSelf", spec := "fnMatchSelf", recurses := true, plainKeys := false, apart := false, narrowed := true }
def FnMatchSelfUptoSaid : Prop := fnMatchSelfUptoRow.holds Try.pinned (OpenSpec.upto fnMatchSelfSpec)

/-- 'laws.FnMatchBest', WHERE WHAT IT READS IS OF BULK AT MOST 1048576: true; the input reads as it did. -/
def fnMatchBestUptoRow : OpenClaim := { program := "ytmibipnkjpkngaa", sum := "52a0b8c8de498453d6fa5792ca274462bf0ef9199b97d58fb426ebe4f1e480a5", func := "loop.example/icecores/laws.FnMatchBest", spec := "fnMatchBest", recurses := true, plainKeys := false, apart := false, narrowed := true }
def FnMatchBestUptoSaid : Prop := fnMatchBestUptoRow.holds Try.pinned (OpenSpec.upto fnMatchBestSpec)

/-- 'laws.FnMatchBestFirst', WHERE WHAT IT READS IS OF BULK AT MOST 1048576: true; the input reads as it did. -/
def fnMatchBestFirstUptoRow : OpenClaim := { program := "ytmibipnkjpkngaa", sum := "52a0b8c8de498453d6fa5792ca274462bf0ef9199b97d58fb426ebe4f1e480a5", func := "loop.example/icecores/laws.FnMatchBestFirst", spec := "fnMatchBestFirst", recurses := true, plainKeys := false, apart := false, narrowed := true }
def FnMatchBestFirstUptoSaid : Prop := fnMatchBestFirstUptoRow.holds Try.pinned (OpenSpec.upto fnMatchBestFirstSpec)

end Rows
end Go.Proofs.Ytmibipnkjpkngaa
