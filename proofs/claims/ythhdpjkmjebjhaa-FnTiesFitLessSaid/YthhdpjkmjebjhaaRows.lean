/-
  No cell of these rows narrows 'for every input' (looked for: loops, veiled, ifaces, maps, wideKeys, modest, calm, conditions, laid).
  DERIVED. THE GIVEN ROWS OF THIS SEAT. 9 by the template 'for every input the law returns true; each argument reads behind the call as it read before'; 0 by the template 'total and deterministic' (their statements: YthhdpjkmjebjhaaTotals.lean).
  GIVEN WITH THE SEED: the statements are not yours to turn. If you find one false, say at which input.
  Laid BY PROGRAM, IN A SANDBOX (cutbox-rows.mjs): the forced cells as the released guide's own fill.sh prints them over the translation fbdb41712878f889… (all of the seat's roots in one cut). By AI agents, Wed Nov 11 2026. No macro, syntax, notation, axiom, sorry.
-/
import Derived.Test.YthhdpjkmjebjhaaChecked
import GoSem.Claim
import GoSem.ClaimJoined
import GoSem.ClaimMapViews
import Derived.JoinedTies
import Derived.KernelRfl
namespace Go.Proofs.Ythhdpjkmjebjhaa
/- THE CELL 'sum', in the pinned program and in every row, IS THE sha256 OF THE DUMP (.gsa) THAT YthhdpjkmjebjhaaProg.lean LOADS. Nothing in Lean hashes anything: it is a label: what it is worth is what the hold of that sum in a sandbox is worth. -/
noncomputable def Try.pinned : Pinned := { name := "ythhdpjkmjebjhaa", sum := "fbdb41712878f889e8ce57fd5f799a0b0db9986dd5cb1b57293f7de42e4c0499", checked := Try.checked }
namespace Rows
def none {H : Type} : Left H := { results := [], args := [] }

/-- 'laws.FnTies': WHATEVER THE INPUT: true; the input reads as it did. -/
def fnTiesSpec : ChangeSpec := { name := "fnTies", fn := fun _ => fun
  | [d1, d2] => { results := [.lit (.bool true)], args := [d1, d2] }
  | _ => none }
def fnTiesRow : OpenClaim := { program := "ythhdpjkmjebjhaa", sum := "fbdb41712878f889e8ce57fd5f799a0b0db9986dd5cb1b57293f7de42e4c0499", func := "loop.example/icecores/laws.FnTies", spec := "fnTies", plainKeys := false, apart := false }
def FnTiesSaid : Prop := fnTiesRow.holds Try.pinned (OpenSpec.ofChange fnTiesSpec)

/-- ITS FALSE NEIGHBOUR: 'it returns false'. Refute it at one input. -/
def fnTiesWrong : ChangeSpec := { name := "fnTies", fn := fun _ => fun
  | [d1, d2] => { results := [.lit (.bool false)], args := [d1, d2] }
  | _ => none }
def FnTiesWrongFalsely : Prop := fnTiesRow.holds Try.pinned (OpenSpec.ofChange fnTiesWrong)

/-- 'laws.FnTiesOf': WHATEVER THE INPUT: true; the input reads as it did. -/
def fnTiesOfSpec : ChangeSpec := { name := "fnTiesOf", fn := fun _ => fun
  | [d] => { results := [.lit (.bool true)], args := [d] }
  | _ => none }
def fnTiesOfRow : OpenClaim := { program := "ythhdpjkmjebjhaa", sum := "fbdb41712878f889e8ce57fd5f799a0b0db9986dd5cb1b57293f7de42e4c0499", func := "loop.example/icecores/laws.FnTiesOf", spec := "fnTiesOf", unfollowed := true, recurses := true, plainKeys := false, apart := false }
def FnTiesOfSaid : Prop := fnTiesOfRow.holds Try.pinned (OpenSpec.ofChange fnTiesOfSpec)

/-- ITS FALSE NEIGHBOUR: 'it returns false'. Refute it at one input. -/
def fnTiesOfWrong : ChangeSpec := { name := "fnTiesOf", fn := fun _ => fun
  | [d] => { results := [.lit (.bool false)], args := [d] }
  | _ => none }
def FnTiesOfWrongFalsely : Prop := fnTiesOfRow.holds Try.pinned (OpenSpec.ofChange fnTiesOfWrong)

/-- 'laws.FnTiesFit': WHATEVER THE INPUT: true; the input reads as it did. -/
def fnTiesFitSpec : ChangeSpec := { name := "fnTiesFit", fn := fun _ => fun
  | [d] => { results := [.lit (.bool true)], args := [d] }
  | _ => none }
def fnTiesFitRow : OpenClaim := { program := "ythhdpjkmjebjhaa", sum := "fbdb41712878f889e8ce57fd5f799a0b0db9986dd5cb1b57293f7de42e4c0499", func := "loop.example/icecores/laws.FnTiesFit", spec := "fnTiesFit", unfollowed := true, recurses := true, plainKeys := false, apart := false }
def FnTiesFitSaid : Prop := fnTiesFitRow.holds Try.pinned (OpenSpec.ofChange fnTiesFitSpec)

/-- ITS FALSE NEIGHBOUR: 'it returns false'. Refute it at one input. -/
def fnTiesFitWrong : ChangeSpec := { name := "fnTiesFit", fn := fun _ => fun
  | [d] => { results := [.lit (.bool false)], args := [d] }
  | _ => none }
def FnTiesFitWrongFalsely : Prop := fnTiesFitRow.holds Try.pinned (OpenSpec.ofChange fnTiesFitWrong)

/-- 'laws.FnTiesFitLess': WHATEVER THE INPUT: true; the input reads as it did. -/
def fnTiesFitLessSpec : ChangeSpec := { name := "fnTiesFitLess", fn := fun _ => fun
  | [d1, d2] => { results := [.lit (.bool true)], args := [d1, d2] }
  | _ => none }
def fnTiesFitLessRow : OpenClaim := { program := "ythhdpjkmjebjhaa", sum := "fbdb41712878f889e8ce57fd5f799a0b0db9986dd5cb1b57293f7de42e4c0499", func := "loop.example/icecores/laws.FnTiesFitLess", spec := "fnTiesFitLess", unfollowed := true, recurses := true, plainKeys := false, apart := false }
def FnTiesFitLessSaid : Prop := fnTiesFitLessRow.holds Try.pinned (OpenSpec.ofChange fnTiesFitLessSpec)

/-- ITS FALSE NEIGHBOUR: 'it returns false'. Refute it at one input. -/
def fnTiesFitLessWrong : ChangeSpec := { name := "fnTiesFitLess", fn := fun _ => fun
  | [d1, d2] => { results := [.lit (.bool false)], args := [d1, d2] }
  | _ => none }
def FnTiesFitLessWrongFalsely : Prop := fnTiesFitLessRow.holds Try.pinned (OpenSpec.ofChange fnTiesFitLessWrong)

/-- 'laws.FnTiesJoin': WHATEVER THE INPUT: true; the input reads as it did. -/
def fnTiesJoinSpec : ChangeSpec := { name := "fnTiesJoin", fn := fun _ => fun
  | [d] => { results := [.lit (.bool true)], args := [d] }
  | _ => none }
def fnTiesJoinRow : OpenClaim := { program := "ythhdpjkmjebjhaa", sum := "fbdb41712878f889e8ce57fd5f799a0b0db9986dd5cb1b57293f7de42e4c0499", func := "loop.example/icecores/laws.FnTiesJoin", spec := "fnTiesJoin", unfollowed := true, recurses := true, plainKeys := false, apart := false }
def FnTiesJoinSaid : Prop := fnTiesJoinRow.holds Try.pinned (OpenSpec.ofChange fnTiesJoinSpec)

/-- ITS FALSE NEIGHBOUR: 'it returns false'. Refute it at one input. -/
def fnTiesJoinWrong : ChangeSpec := { name := "fnTiesJoin", fn := fun _ => fun
  | [d] => { results := [.lit (.bool false)], args := [d] }
  | _ => none }
def FnTiesJoinWrongFalsely : Prop := fnTiesJoinRow.holds Try.pinned (OpenSpec.ofChange fnTiesJoinWrong)

/-- 'laws.FnTiesJoinNone': WHATEVER THE INPUT: true; the input reads as it did. -/
def fnTiesJoinNoneSpec : ChangeSpec := { name := "fnTiesJoinNone", fn := fun _ => fun
  | [d] => { results := [.lit (.bool true)], args := [d] }
  | _ => none }
def fnTiesJoinNoneRow : OpenClaim := { program := "ythhdpjkmjebjhaa", sum := "fbdb41712878f889e8ce57fd5f799a0b0db9986dd5cb1b57293f7de42e4c0499", func := "loop.example/icecores/laws.FnTiesJoinNone", spec := "fnTiesJoinNone", unfollowed := true, recurses := true, plainKeys := false, apart := false }
def FnTiesJoinNoneSaid : Prop := fnTiesJoinNoneRow.holds Try.pinned (OpenSpec.ofChange fnTiesJoinNoneSpec)

/-- ITS FALSE NEIGHBOUR: 'it returns false'. Refute it at one input. -/
def fnTiesJoinNoneWrong : ChangeSpec := { name := "fnTiesJoinNone", fn := fun _ => fun
  | [d] => { results := [.lit (.bool false)], args := [d] }
  | _ => none }
def FnTiesJoinNoneWrongFalsely : Prop := fnTiesJoinNoneRow.holds Try.pinned (OpenSpec.ofChange fnTiesJoinNoneWrong)

/-- 'laws.FnTiesTurn': WHATEVER THE INPUT: true; the input reads as it did. -/
def fnTiesTurnSpec : ChangeSpec := { name := "fnTiesTurn", fn := fun _ => fun
  | [d] => { results := [.lit (.bool true)], args := [d] }
  | _ => none }
def fnTiesTurnRow : OpenClaim := { program := "ythhdpjkmjebjhaa", sum := "fbdb41712878f889e8ce57fd5f799a0b0db9986dd5cb1b57293f7de42e4c0499", func := "loop.example/icecores/laws.FnTiesTurn", spec := "fnTiesTurn", unfollowed := true, recurses := true, plainKeys := false, apart := false }
def FnTiesTurnSaid : Prop := fnTiesTurnRow.holds Try.pinned (OpenSpec.ofChange fnTiesTurnSpec)

/-- ITS FALSE NEIGHBOUR: 'it returns false'. Refute it at one input. -/
def fnTiesTurnWrong : ChangeSpec := { name := "fnTiesTurn", fn := fun _ => fun
  | [d] => { results := [.lit (.bool false)], args := [d] }
  | _ => none }
def FnTiesTurnWrongFalsely : Prop := fnTiesTurnRow.holds Try.pinned (OpenSpec.ofChange fnTiesTurnWrong)

/-- 'laws.FnTiesThrough': WHATEVER THE INPUT: true; the input reads as it did. -/
def fnTiesThroughSpec : ChangeSpec := { name := "fnTiesThrough", fn := fun _ => fun
  | [d] => { results := [.lit (.bool true)], args := [d] }
  | _ => none }
def fnTiesThroughRow : OpenClaim := { program := "ythhdpjkmjebjhaa", sum := "fbdb41712878f889e8ce57fd5f799a0b0db9986dd5cb1b57293f7de42e4c0499", func := "loop.example/icecores/laws.FnTiesThrough", spec := "fnTiesThrough", unfollowed := true, recurses := true, plainKeys := false, apart := false }
def FnTiesThroughSaid : Prop := fnTiesThroughRow.holds Try.pinned (OpenSpec.ofChange fnTiesThroughSpec)

/-- ITS FALSE NEIGHBOUR: 'it returns false'. Refute it at one input. -/
def fnTiesThroughWrong : ChangeSpec := { name := "fnTiesThrough", fn := fun _ => fun
  | [d] => { results := [.lit (.bool false)], args := [d] }
  | _ => none }
def FnTiesThroughWrongFalsely : Prop := fnTiesThroughRow.holds Try.pinned (OpenSpec.ofChange fnTiesThroughWrong)

/-- 'laws.FnTiesThroughSelf': WHATEVER THE INPUT: true; the input reads as it did. -/
def fnTiesThroughSelfSpec : ChangeSpec := { name := "fnTiesThroughSelf", fn := fun _ => fun
  | [d] => { results := [.lit (.bool true)], args := [d] }
  | _ => none }
def fnTiesThroughSelfRow : OpenClaim := { program := "ythhdpjkmjebjhaa", sum := "fbdb41712878f889e8ce57fd5f799a0b0db9986dd5cb1b57293f7de42e4c0499", func := "loop.example/icecores/laws.FnTiesThroughSelf", spec := "fnTiesThroughSelf", unfollowed := true, recurses := true, plainKeys := false, apart := false }
def FnTiesThroughSelfSaid : Prop := fnTiesThroughSelfRow.holds Try.pinned (OpenSpec.ofChange fnTiesThroughSelfSpec)

/-- ITS FALSE NEIGHBOUR: 'it returns false'. Refute it at one input. -/
def fnTiesThroughSelfWrong : ChangeSpec := { name := "fnTiesThroughSelf", fn := fun _ => fun
  | [d] => { results := [.lit (.bool false)], args := [d] }
  | _ => none }
def FnTiesThroughSelfWrongFalsely : Prop := fnTiesThroughSelfRow.holds Try.pinned (OpenSpec.ofChange fnTiesThroughSelfWrong)

/- THE SECOND FORM. 'bulk': how many values and letters a reading holds, each counted each time it is reached (what is shared counts as often as it is met; a slice's spare places count too). A statement '..UptoSaid' is the law's where the arguments, and the package variables that the reading takes, are together of bulk at most 1048576: NARROWER than '..Said'. Prove '..Said' where nothing that the law and all that it calls make is longer than what came in: it says more and counts as full. Else prove '..UptoSaid'. A law counts once. -/
mutual
def uptoBulk {H : Type} : DataW H → Nat
  | .lit (.string bytes) => bytes.length + 1
  | .lit _ => 1
  | .nil => 1
  | .ptr d => uptoBulk d + 1
  | .slice elems spare => uptoBulkAll elems + uptoBulkAll spare + 1
  | .agg parts => uptoBulkAll parts + 1
  | .iface _ d => uptoBulk d + 1
  | .map entries => uptoBulkEntries entries + 1
  | .held _ => 1
def uptoBulkAll {H : Type} : List (DataW H) → Nat
  | [] => 0
  | d :: r => uptoBulk d + uptoBulkAll r
def uptoBulkEntries {H : Type} : List (Lit × DataW H) → Nat
  | [] => 0
  | x :: r => uptoBulkEntry x + uptoBulkEntries r
def uptoBulkEntry {H : Type} : Lit × DataW H → Nat
  | (.string bytes, d) => bytes.length + uptoBulk d + 1
  | (_, d) => uptoBulk d + 1
 end
def uptoSmall : (H : Type) → List (DataW H) → Bool := fun _ ds => decide (uptoBulkAll ds ≤ 1048576)
def OpenSpec.upto (s : _root_.Go.ChangeSpec) : _root_.Go.OpenSpec := { _root_.Go.OpenSpec.ofChange s with cond := some uptoSmall }

/-- 'laws.FnTies', WHERE WHAT IT READS IS OF BULK AT MOST 1048576: true; the input reads as it did. -/
def fnTiesUptoRow : OpenClaim := { program := "ythhdpjkmjebjhaa", sum := "fbdb41712878f889e8ce57fd5f799a0b0db9986dd5cb1b57293f7de42e4c0499", func := "loop.example/icecores/laws.FnTies", spec := "fnTies", plainKeys := false, apart := false, narrowed := true }
def FnTiesUptoSaid : Prop := fnTiesUptoRow.holds Try.pinned (OpenSpec.upto fnTiesSpec)

/-- 'laws.FnTiesOf', WHERE WHAT IT READS IS OF BULK AT MOST 1048576: true; the input reads as it did. -/
def fnTiesOfUptoRow : OpenClaim := { program := "ythhdpjkmjebjhaa", sum := "fbdb41712878f889e8ce57fd5f799a0b0db9986dd5cb1b57293f7de42e4c0499", func := "loop.example/icecores/laws.FnTiesOf", spec := "fnTiesOf", unfollowed := true, recurses := true, plainKeys := false, apart := false, narrowed := true }
def FnTiesOfUptoSaid : Prop := fnTiesOfUptoRow.holds Try.pinned (OpenSpec.upto fnTiesOfSpec)

/-- 'laws.FnTiesFit', WHERE WHAT IT READS IS OF BULK AT MOST 1048576: true; the input reads as it did. -/
def fnTiesFitUptoRow : OpenClaim := { program := "ythhdpjkmjebjhaa", sum := "fbdb41712878f889e8ce57fd5f799a0b0db9986dd5cb1b57293f7de42e4c0499", func := "loop.example/icecores/laws.FnTiesFit", spec := "fnTiesFit", unfollowed := true, recurses := true, plainKeys := false, apart := false, narrowed := true }
def FnTiesFitUptoSaid : Prop := fnTiesFitUptoRow.holds Try.pinned (OpenSpec.upto fnTiesFitSpec)

/-- 'laws.FnTiesFitLess', WHERE WHAT IT READS IS OF BULK AT MOST 1048576: true; the input reads as it did. -/
def fnTiesFitLessUptoRow : OpenClaim := { program := "ythhdpjkmjebjhaa", sum := "fbdb41712878f889e8ce57fd5f799a0b0db9986dd5cb1b57293f7de42e4c0499", func := "loop.example/icecores/laws.FnTiesFitLess", spec := "fnTiesFitLess", unfollowed := true, recurses := true, plainKeys := false, apart := false, narrowed := true }
def FnTiesFitLessUptoSaid : Prop := fnTiesFitLessUptoRow.holds Try.pinned (OpenSpec.upto fnTiesFitLessSpec)

/-- 'laws.FnTiesJoin', WHERE WHAT IT READS IS OF BULK AT MOST 1048576: true; the input reads as it did. -/
def fnTiesJoinUptoRow : OpenClaim := { program := "ythhdpjkmjebjhaa", sum := "fbdb41712878f889e8ce57fd5f799a0b0db9986dd5cb1b57293f7de42e4c0499", func := "loop.example/icecores/laws.FnTiesJoin", spec := "fnTiesJoin", unfollowed := true, recurses := true, plainKeys := false, apart := false, narrowed := true }
def FnTiesJoinUptoSaid : Prop := fnTiesJoinUptoRow.holds Try.pinned (OpenSpec.upto fnTiesJoinSpec)

/-- 'laws.FnTiesJoinNone', WHERE WHAT IT READS IS OF BULK AT MOST 1048576: true; the input reads as it did. -/
def fnTiesJoinNoneUptoRow : OpenClaim := { program := "ythhdpjkmjebjhaa", sum := "fbdb41712878f889e8ce57fd5f799a0b0db9986dd5cb1b57293f7de42e4c0499", func := "loop.example/icecores/laws.FnTiesJoinNone", spec := "fnTiesJoinNone", unfollowed := true, recurses := true, plainKeys := false, apart := false, narrowed := true }
def FnTiesJoinNoneUptoSaid : Prop := fnTiesJoinNoneUptoRow.holds Try.pinned (OpenSpec.upto fnTiesJoinNoneSpec)

/-- 'laws.FnTiesTurn', WHERE WHAT IT READS IS OF BULK AT MOST 1048576: true; the input reads as it did. -/
def fnTiesTurnUptoRow : OpenClaim := { program := "ythhdpjkmjebjhaa", sum := "fbdb41712878f889e8ce57fd5f799a0b0db9986dd5cb1b57293f7de42e4c0499", func := "loop.example/icecores/laws.FnTiesTurn", spec := "fnTiesTurn", unfollowed := true, recurses := true, plainKeys := false, apart := false, narrowed := true }
def FnTiesTurnUptoSaid : Prop := fnTiesTurnUptoRow.holds Try.pinned (OpenSpec.upto fnTiesTurnSpec)

/-- 'laws.FnTiesThrough', WHERE WHAT IT READS IS OF BULK AT MOST 1048576: true; the input reads as it did. -/
def fnTiesThroughUptoRow : OpenClaim := { program := "ythhdpjkmjebjhaa", sum := "fbdb41712878f889e8ce57fd5f799a0b0db9986dd5cb1b57293f7de42e4c0499", func := "loop.example/icecores/laws.FnTiesThrough", spec := "fnTiesThrough", unfollowed := true, recurses := true, plainKeys := false, apart := false, narrowed := true }
def FnTiesThroughUptoSaid : Prop := fnTiesThroughUptoRow.holds Try.pinned (OpenSpec.upto fnTiesThroughSpec)

/-- 'laws.FnTiesThroughSelf', WHERE WHAT IT READS IS OF BULK AT MOST 1048576: true; the input reads as it did. -/
def fnTiesThroughSelfUptoRow : OpenClaim := { program := "ythhdpjkmjebjhaa", sum := "fbdb41712878f889e8ce57fd5f799a0b0db9986dd5cb1b57293f7de42e4c0499", func := "loop.example/icecores/laws.FnTiesThroughSelf", spec := "fnTiesThroughSelf", unfollowed := true, recurses := true, plainKeys := false, apart := false, narrowed := true }
def FnTiesThroughSelfUptoSaid : Prop := fnTiesThroughSelfUptoRow.holds Try.pinned (OpenSpec.upto fnTiesThroughSelfSpec)

end Rows
end Go.Proofs.Ythhdpjkmjebjhaa
