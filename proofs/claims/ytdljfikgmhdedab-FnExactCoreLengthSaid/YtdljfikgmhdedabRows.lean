/-
  No cell of these rows narrows 'for every input' (looked for: loops, veiled, ifaces, maps, wideKeys, modest, calm, conditions, laid).
  DERIVED. THE GIVEN ROWS OF THIS SEAT. 9 by the template 'for every input the law returns true; each argument reads behind the call as it read before'; 0 by the template 'total and deterministic' (their statements: YtdljfikgmhdedabTotals.lean).
  GIVEN WITH THE SEED: the statements are not yours to turn. If you find one false, say at which input.
  Laid BY PROGRAM, IN A SANDBOX (cutbox-rows.mjs): the forced cells as the released guide's own fill.sh prints them over the translation 1b6ff3eda635f2b9… (all of the seat's roots in one cut). By AI agents, Wed Nov 11 2026. No macro, syntax, notation, axiom, sorry.
-/
import Derived.Test.YtdljfikgmhdedabChecked
import GoSem.Claim
import GoSem.ClaimJoined
import GoSem.ClaimMapViews
import Derived.JoinedTies
import Derived.KernelRfl
namespace Go.Proofs.Ytdljfikgmhdedab
/- THE CELL 'sum', in the pinned program and in every row, IS THE sha256 OF THE DUMP (.gsa) THAT YtdljfikgmhdedabProg.lean LOADS. Nothing in Lean hashes anything: it is a label: what it is worth is what the hold of that sum in a sandbox is worth. -/
noncomputable def Try.pinned : Pinned := { name := "ytdljfikgmhdedab", sum := "1b6ff3eda635f2b984592977b07f6f69da2c6031924ea36a53d324ffcc1ed380", checked := Try.checked }
namespace Rows
def none {H : Type} : Left H := { results := [], args := [] }

/-- 'laws.FnCoreBetweenSplit': WHATEVER THE INPUT: true; the input reads as it did. -/
def fnCoreBetweenSplitSpec : ChangeSpec := { name := "fnCoreBetweenSplit", fn := fun _ => fun
  | [d1, d2] => { results := [.lit (.bool true)], args := [d1, d2] }
  | _ => none }
def fnCoreBetweenSplitRow : OpenClaim := { program := "ytdljfikgmhdedab", sum := "1b6ff3eda635f2b984592977b07f6f69da2c6031924ea36a53d324ffcc1ed380", func := "loop.example/icecores/laws.FnCoreBetweenSplit", spec := "fnCoreBetweenSplit", recurses := true, apart := false }
def FnCoreBetweenSplitSaid : Prop := fnCoreBetweenSplitRow.holds Try.pinned (OpenSpec.ofChange fnCoreBetweenSplitSpec)

/-- ITS FALSE NEIGHBOUR: 'it returns false'. Refute it at one input. -/
def fnCoreBetweenSplitWrong : ChangeSpec := { name := "fnCoreBetweenSplit", fn := fun _ => fun
  | [d1, d2] => { results := [.lit (.bool false)], args := [d1, d2] }
  | _ => none }
def FnCoreBetweenSplitWrongFalsely : Prop := fnCoreBetweenSplitRow.holds Try.pinned (OpenSpec.ofChange fnCoreBetweenSplitWrong)

/-- 'laws.FnCoreBetweenAll': WHATEVER THE INPUT: true; the input reads as it did. -/
def fnCoreBetweenAllSpec : ChangeSpec := { name := "fnCoreBetweenAll", fn := fun _ => fun
  | [d] => { results := [.lit (.bool true)], args := [d] }
  | _ => none }
def fnCoreBetweenAllRow : OpenClaim := { program := "ytdljfikgmhdedab", sum := "1b6ff3eda635f2b984592977b07f6f69da2c6031924ea36a53d324ffcc1ed380", func := "loop.example/icecores/laws.FnCoreBetweenAll", spec := "fnCoreBetweenAll", recurses := true, apart := false }
def FnCoreBetweenAllSaid : Prop := fnCoreBetweenAllRow.holds Try.pinned (OpenSpec.ofChange fnCoreBetweenAllSpec)

/-- ITS FALSE NEIGHBOUR: 'it returns false'. Refute it at one input. -/
def fnCoreBetweenAllWrong : ChangeSpec := { name := "fnCoreBetweenAll", fn := fun _ => fun
  | [d] => { results := [.lit (.bool false)], args := [d] }
  | _ => none }
def FnCoreBetweenAllWrongFalsely : Prop := fnCoreBetweenAllRow.holds Try.pinned (OpenSpec.ofChange fnCoreBetweenAllWrong)

/-- 'laws.FnCoreJoinHas': WHATEVER THE INPUT: true; the input reads as it did. -/
def fnCoreJoinHasSpec : ChangeSpec := { name := "fnCoreJoinHas", fn := fun _ => fun
  | [d1, d2] => { results := [.lit (.bool true)], args := [d1, d2] }
  | _ => none }
def fnCoreJoinHasRow : OpenClaim := { program := "ytdljfikgmhdedab", sum := "1b6ff3eda635f2b984592977b07f6f69da2c6031924ea36a53d324ffcc1ed380", func := "loop.example/icecores/laws.FnCoreJoinHas", spec := "fnCoreJoinHas", apart := false }
def FnCoreJoinHasSaid : Prop := fnCoreJoinHasRow.holds Try.pinned (OpenSpec.ofChange fnCoreJoinHasSpec)

/-- ITS FALSE NEIGHBOUR: 'it returns false'. Refute it at one input. -/
def fnCoreJoinHasWrong : ChangeSpec := { name := "fnCoreJoinHas", fn := fun _ => fun
  | [d1, d2] => { results := [.lit (.bool false)], args := [d1, d2] }
  | _ => none }
def FnCoreJoinHasWrongFalsely : Prop := fnCoreJoinHasRow.holds Try.pinned (OpenSpec.ofChange fnCoreJoinHasWrong)

/-- 'laws.FnCoreBetweenTwice': WHATEVER THE INPUT: true; the input reads as it did. -/
def fnCoreBetweenTwiceSpec : ChangeSpec := { name := "fnCoreBetweenTwice", fn := fun _ => fun
  | [d1, d2] => { results := [.lit (.bool true)], args := [d1, d2] }
  | _ => none }
def fnCoreBetweenTwiceRow : OpenClaim := { program := "ytdljfikgmhdedab", sum := "1b6ff3eda635f2b984592977b07f6f69da2c6031924ea36a53d324ffcc1ed380", func := "loop.example/icecores/laws.FnCoreBetweenTwice", spec := "fnCoreBetweenTwice", recurses := true, apart := false }
def FnCoreBetweenTwiceSaid : Prop := fnCoreBetweenTwiceRow.holds Try.pinned (OpenSpec.ofChange fnCoreBetweenTwiceSpec)

/-- ITS FALSE NEIGHBOUR: 'it returns false'. Refute it at one input. -/
def fnCoreBetweenTwiceWrong : ChangeSpec := { name := "fnCoreBetweenTwice", fn := fun _ => fun
  | [d1, d2] => { results := [.lit (.bool false)], args := [d1, d2] }
  | _ => none }
def FnCoreBetweenTwiceWrongFalsely : Prop := fnCoreBetweenTwiceRow.holds Try.pinned (OpenSpec.ofChange fnCoreBetweenTwiceWrong)

/-- 'laws.FnCoreCutBetween': WHATEVER THE INPUT: true; the input reads as it did. -/
def fnCoreCutBetweenSpec : ChangeSpec := { name := "fnCoreCutBetween", fn := fun _ => fun
  | [d] => { results := [.lit (.bool true)], args := [d] }
  | _ => none }
def fnCoreCutBetweenRow : OpenClaim := { program := "ytdljfikgmhdedab", sum := "1b6ff3eda635f2b984592977b07f6f69da2c6031924ea36a53d324ffcc1ed380", func := "loop.example/icecores/laws.FnCoreCutBetween", spec := "fnCoreCutBetween", recurses := true, apart := false }
def FnCoreCutBetweenSaid : Prop := fnCoreCutBetweenRow.holds Try.pinned (OpenSpec.ofChange fnCoreCutBetweenSpec)

/-- ITS FALSE NEIGHBOUR: 'it returns false'. Refute it at one input. -/
def fnCoreCutBetweenWrong : ChangeSpec := { name := "fnCoreCutBetween", fn := fun _ => fun
  | [d] => { results := [.lit (.bool false)], args := [d] }
  | _ => none }
def FnCoreCutBetweenWrongFalsely : Prop := fnCoreCutBetweenRow.holds Try.pinned (OpenSpec.ofChange fnCoreCutBetweenWrong)

/-- 'laws.FnCoreHasEnds': WHATEVER THE INPUT: true; the input reads as it did. -/
def fnCoreHasEndsSpec : ChangeSpec := { name := "fnCoreHasEnds", fn := fun _ => fun
  | [d] => { results := [.lit (.bool true)], args := [d] }
  | _ => none }
def fnCoreHasEndsRow : OpenClaim := { program := "ytdljfikgmhdedab", sum := "1b6ff3eda635f2b984592977b07f6f69da2c6031924ea36a53d324ffcc1ed380", func := "loop.example/icecores/laws.FnCoreHasEnds", spec := "fnCoreHasEnds", apart := false }
def FnCoreHasEndsSaid : Prop := fnCoreHasEndsRow.holds Try.pinned (OpenSpec.ofChange fnCoreHasEndsSpec)

/-- ITS FALSE NEIGHBOUR: 'it returns false'. Refute it at one input. -/
def fnCoreHasEndsWrong : ChangeSpec := { name := "fnCoreHasEnds", fn := fun _ => fun
  | [d] => { results := [.lit (.bool false)], args := [d] }
  | _ => none }
def FnCoreHasEndsWrongFalsely : Prop := fnCoreHasEndsRow.holds Try.pinned (OpenSpec.ofChange fnCoreHasEndsWrong)

/-- 'laws.FnCoreLengthHas': WHATEVER THE INPUT: true; the input reads as it did. -/
def fnCoreLengthHasSpec : ChangeSpec := { name := "fnCoreLengthHas", fn := fun _ => fun
  | [d] => { results := [.lit (.bool true)], args := [d] }
  | _ => none }
def fnCoreLengthHasRow : OpenClaim := { program := "ytdljfikgmhdedab", sum := "1b6ff3eda635f2b984592977b07f6f69da2c6031924ea36a53d324ffcc1ed380", func := "loop.example/icecores/laws.FnCoreLengthHas", spec := "fnCoreLengthHas", apart := false }
def FnCoreLengthHasSaid : Prop := fnCoreLengthHasRow.holds Try.pinned (OpenSpec.ofChange fnCoreLengthHasSpec)

/-- ITS FALSE NEIGHBOUR: 'it returns false'. Refute it at one input. -/
def fnCoreLengthHasWrong : ChangeSpec := { name := "fnCoreLengthHas", fn := fun _ => fun
  | [d] => { results := [.lit (.bool false)], args := [d] }
  | _ => none }
def FnCoreLengthHasWrongFalsely : Prop := fnCoreLengthHasRow.holds Try.pinned (OpenSpec.ofChange fnCoreLengthHasWrong)

/-- 'laws.FnExactCoreValid': WHATEVER THE INPUT: true; the input reads as it did. -/
def fnExactCoreValidSpec : ChangeSpec := { name := "fnExactCoreValid", fn := fun _ => fun
  | [d] => { results := [.lit (.bool true)], args := [d] }
  | _ => none }
def fnExactCoreValidRow : OpenClaim := { program := "ytdljfikgmhdedab", sum := "1b6ff3eda635f2b984592977b07f6f69da2c6031924ea36a53d324ffcc1ed380", func := "loop.example/icecores/laws.FnExactCoreValid", spec := "fnExactCoreValid", apart := false }
def FnExactCoreValidSaid : Prop := fnExactCoreValidRow.holds Try.pinned (OpenSpec.ofChange fnExactCoreValidSpec)

/-- ITS FALSE NEIGHBOUR: 'it returns false'. Refute it at one input. -/
def fnExactCoreValidWrong : ChangeSpec := { name := "fnExactCoreValid", fn := fun _ => fun
  | [d] => { results := [.lit (.bool false)], args := [d] }
  | _ => none }
def FnExactCoreValidWrongFalsely : Prop := fnExactCoreValidRow.holds Try.pinned (OpenSpec.ofChange fnExactCoreValidWrong)

/-- 'laws.FnExactCoreLength': WHATEVER THE INPUT: true; the input reads as it did. -/
def fnExactCoreLengthSpec : ChangeSpec := { name := "fnExactCoreLength", fn := fun _ => fun
  | [d] => { results := [.lit (.bool true)], args := [d] }
  | _ => none }
def fnExactCoreLengthRow : OpenClaim := { program := "ytdljfikgmhdedab", sum := "1b6ff3eda635f2b984592977b07f6f69da2c6031924ea36a53d324ffcc1ed380", func := "loop.example/icecores/laws.FnExactCoreLength", spec := "fnExactCoreLength", apart := false }
def FnExactCoreLengthSaid : Prop := fnExactCoreLengthRow.holds Try.pinned (OpenSpec.ofChange fnExactCoreLengthSpec)

/-- ITS FALSE NEIGHBOUR: 'it returns false'. Refute it at one input. -/
def fnExactCoreLengthWrong : ChangeSpec := { name := "fnExactCoreLength", fn := fun _ => fun
  | [d] => { results := [.lit (.bool false)], args := [d] }
  | _ => none }
def FnExactCoreLengthWrongFalsely : Prop := fnExactCoreLengthRow.holds Try.pinned (OpenSpec.ofChange fnExactCoreLengthWrong)

/- THE SECOND FORM. 'bulk': how many values and letters a reading holds, each counted each time it is reached (what is shared counts as often as it is met; a slice's spare places count too). A statement '..UptoSaid' is the law's where the arguments, and the package variables that the reading takes, are together of bulk at most 1048576: NARROWER than '..Said'. Prove '..Said' where nothing that the law and all that it calls make is longer than what came in: it says more and counts as full. Else prove '..UptoSaid'. A law counts once. -/
mutual
def uptoBulk {H : Type} : DataW H → Nat
  | .lit (.string bytes) => bytes.length + 1
  | .lit _ => 1
  | .nil => 1
  | .ptr d => uptoBulk d + 1
  | .slice elems spare => uptoBulkAll elems + uptoBulkAll spare + 1
  | .agg parts => uptoBulkAll parts + 1
  | .iface _ d => uptoBulk d + 1
  | .map entries => uptoBulkEntries entries + 1
  | .held _ => 1
def uptoBulkAll {H : Type} : List (DataW H) → Nat
  | [] => 0
  | d :: r => uptoBulk d + uptoBulkAll r
def uptoBulkEntries {H : Type} : List (Lit × DataW H) → Nat
  | [] => 0
  | x :: r => uptoBulkEntry x + uptoBulkEntries r
def uptoBulkEntry {H : Type} : Lit × DataW H → Nat
  | (.string bytes, d) => bytes.length + uptoBulk d + 1
  | (_, d) => uptoBulk d + 1
 end
def uptoSmall : (H : Type) → List (DataW H) → Bool := fun _ ds => decide (uptoBulkAll ds ≤ 1048576)
def OpenSpec.upto (s : _root_.Go.ChangeSpec) : _root_.Go.OpenSpec := { _root_.Go.OpenSpec.ofChange s with cond := some uptoSmall }

/-- 'laws.FnCoreBetweenSplit', WHERE WHAT IT READS IS OF BULK AT MOST 1048576: true; the input reads as it did. -/
def fnCoreBetweenSplitUptoRow : OpenClaim := { program := "ytdljfikgmhdedab", sum := "1b6ff3eda635f2b984592977b07f6f69da2c6031924ea36a53d324ffcc1ed380", func := "loop.example/icecores/laws.FnCoreBetweenSplit", spec := "fnCoreBetweenSplit", recurses := true, apart := false, narrowed := true }
def FnCoreBetweenSplitUptoSaid : Prop := fnCoreBetweenSplitUptoRow.holds Try.pinned (OpenSpec.upto fnCoreBetweenSplitSpec)

/-- 'laws.FnCoreBetweenAll', WHERE WHAT IT READS IS OF BULK AT MOST 1048576: true; the input reads as it did. -/
def fnCoreBetweenAllUptoRow : OpenClaim := { program := "ytdljfikgmhdedab", sum := "1b6ff3eda635f2b984592977b07f6f69da2c6031924ea36a53d324ffcc1ed380", func := "loop.example/icecores/laws.FnCoreBetweenAll", spec := "fnCoreBetweenAll", recurses := true, apart := false, narrowed := true }
def FnCoreBetweenAllUptoSaid : Prop := fnCoreBetweenAllUptoRow.holds Try.pinned (OpenSpec.upto fnCoreBetweenAllSpec)

/-- 'laws.FnCoreJoinHas', WHERE WHAT IT READS IS OF BULK AT MOST 1048576: true; the input reads as it did. -/
def fnCoreJoinHasUptoRow : OpenClaim := { program := "ytdljfikgmhdedab", sum := "1b6ff3eda635f2b984592977b07f6f69da2c6031924ea36a53d324ffcc1ed380", func := "loop.example/icecores/laws.FnCoreJoinHas", spec := "fnCoreJoinHas", apart := false, narrowed := true }
def FnCoreJoinHasUptoSaid : Prop := fnCoreJoinHasUptoRow.holds Try.pinned (OpenSpec.upto fnCoreJoinHasSpec)

/-- 'laws.FnCoreBetweenTwice', WHERE WHAT IT READS IS OF BULK AT MOST 1048576: true; the input reads as it did. -/
def fnCoreBetweenTwiceUptoRow : OpenClaim := { program := "ytdljfikgmhdedab", sum := "1b6ff3eda635f2b984592977b07f6f69da2c6031924ea36a53d324ffcc1ed380", func := "loop.example/icecores/laws.FnCoreBetweenTwice", spec := "fnCoreBetweenTwice", recurses := true, apart := false, narrowed := true }
def FnCoreBetweenTwiceUptoSaid : Prop := fnCoreBetweenTwiceUptoRow.holds Try.pinned (OpenSpec.upto fnCoreBetweenTwiceSpec)

/-- 'laws.FnCoreCutBetween', WHERE WHAT IT READS IS OF BULK AT MOST 1048576: true; the input reads as it did. -/
def fnCoreCutBetweenUptoRow : OpenClaim := { program := "ytdljfikgmhdedab", sum := "1b6ff3eda635f2b984592977b07f6f69da2c6031924ea36a53d324ffcc1ed380", func := "loop.example/icecores/laws.FnCoreCutBetween", spec := "fnCoreCutBetween", recurses := true, apart := false, narrowed := true }
def FnCoreCutBetweenUptoSaid : Prop := fnCoreCutBetweenUptoRow.holds Try.pinned (OpenSpec.upto fnCoreCutBetweenSpec)

/-- 'laws.FnCoreHasEnds', WHERE WHAT IT READS IS OF BULK AT MOST 1048576: true; the input reads as it did. -/
def fnCoreHasEndsUptoRow : OpenClaim := { program := "ytdljfikgmhdedab", sum := "1b6ff3eda635f2b984592977b07f6f69da2c6031924ea36a53d324ffcc1ed380", func := "loop.example/icecores/laws.FnCoreHasEnds", spec := "fnCoreHasEnds", apart := false, narrowed := true }
def FnCoreHasEndsUptoSaid : Prop := fnCoreHasEndsUptoRow.holds Try.pinned (OpenSpec.upto fnCoreHasEndsSpec)

/-- 'laws.FnCoreLengthHas', WHERE WHAT IT READS IS OF BULK AT MOST 1048576: true; the input reads as it did. -/
def fnCoreLengthHasUptoRow : OpenClaim := { program := "ytdljfikgmhdedab", sum := "1b6ff3eda635f2b984592977b07f6f69da2c6031924ea36a53d324ffcc1ed380", func := "loop.example/icecores/laws.FnCoreLengthHas", spec := "fnCoreLengthHas", apart := false, narrowed := true }
def FnCoreLengthHasUptoSaid : Prop := fnCoreLengthHasUptoRow.holds Try.pinned (OpenSpec.upto fnCoreLengthHasSpec)

/-- 'laws.FnExactCoreValid', WHERE WHAT IT READS IS OF BULK AT MOST 1048576: true; the input reads as it did. -/
def fnExactCoreValidUptoRow : OpenClaim := { program := "ytdljfikgmhdedab", sum := "1b6ff3eda635f2b984592977b07f6f69da2c6031924ea36a53d324ffcc1ed380", func := "loop.example/icecores/laws.FnExactCoreValid", spec := "fnExactCoreValid", apart := false, narrowed := true }
def FnExactCoreValidUptoSaid : Prop := fnExactCoreValidUptoRow.holds Try.pinned (OpenSpec.upto fnExactCoreValidSpec)

/-- 'laws.FnExactCoreLength', WHERE WHAT IT READS IS OF BULK AT MOST 1048576: true; the input reads as it did. -/
def fnExactCoreLengthUptoRow : OpenClaim := { program := "ytdljfikgmhdedab", sum := "1b6ff3eda635f2b984592977b07f6f69da2c6031924ea36a53d324ffcc1ed380", func := "loop.example/icecores/laws.FnExactCoreLength", spec := "fnExactCoreLength", apart := false, narrowed := true }
def FnExactCoreLengthUptoSaid : Prop := fnExactCoreLengthUptoRow.holds Try.pinned (OpenSpec.upto fnExactCoreLengthSpec)

end Rows
end Go.Proofs.Ytdljfikgmhdedab
