/-
  No cell of these rows narrows 'for every input' (looked for: loops, veiled, ifaces, maps, wideKeys, modest, calm, conditions, laid).
  DERIVED. THE GIVEN ROWS OF THIS SEAT. 9 by the template 'for every input the law returns true; each argument reads behind the call as it read before'; 0 by the template 'total and deterministic' (their statements: YtdljfikgmhdedaaTotals.lean).
  GIVEN WITH THE SEED: the statements are not yours to turn. If you find one false, say at which input.
  Laid BY PROGRAM, IN A SANDBOX (cutbox-rows.mjs): the forced cells as the released guide's own fill.sh prints them over the translation 8358ee2dd87f3096… (all of the seat's roots in one cut). By AI agents, Wed Nov 11 2026. No macro, syntax, notation, axiom, sorry.
-/
import Derived.Test.YtdljfikgmhdedaaChecked
import GoSem.Claim
import GoSem.ClaimJoined
import GoSem.ClaimMapViews
import Derived.JoinedTies
import Derived.KernelRfl
namespace Go.Proofs.Ytdljfikgmhdedaa
/- THE CELL 'sum', in the pinned program and in every row, IS THE sha256 OF THE DUMP (.gsa) THAT YtdljfikgmhdedaaProg.lean LOADS. Nothing in Lean hashes anything: it is a label: what it is worth is what the hold of that sum in a sandbox is worth. -/
noncomputable def Try.pinned : Pinned := { name := "ytdljfikgmhdedaa", sum := "8358ee2dd87f3096d2533b203ecce259b355e45f3e887cd5b588ff20f4a34e4d", checked := Try.checked }
namespace Rows
def none {H : Type} : Left H := { results := [], args := [] }

/-- 'laws.FnCore': WHATEVER THE INPUT: true; the input reads as it did. -/
def fnCoreSpec : ChangeSpec := { name := "fnCore", fn := fun _ => fun
  | [d1, d2] => { results := [.lit (.bool true)], args := [d1, d2] }
  | _ => none }
def fnCoreRow : OpenClaim := { program := "ytdljfikgmhdedaa", sum := "8358ee2dd87f3096d2533b203ecce259b355e45f3e887cd5b588ff20f4a34e4d", func := "loop.example/icecores/laws.FnCore", spec := "fnCore", apart := false }
def FnCoreSaid : Prop := fnCoreRow.holds Try.pinned (OpenSpec.ofChange fnCoreSpec)

/-- ITS FALSE NEIGHBOUR: 'it returns false'. Refute it at one input. -/
def fnCoreWrong : ChangeSpec := { name := "fnCore", fn := fun _ => fun
  | [d1, d2] => { results := [.lit (.bool false)], args := [d1, d2] }
  | _ => none }
def FnCoreWrongFalsely : Prop := fnCoreRow.holds Try.pinned (OpenSpec.ofChange fnCoreWrong)

/-- 'laws.FnCoreLength': WHATEVER THE INPUT: true; the input reads as it did. -/
def fnCoreLengthSpec : ChangeSpec := { name := "fnCoreLength", fn := fun _ => fun
  | [d1, d2] => { results := [.lit (.bool true)], args := [d1, d2] }
  | _ => none }
def fnCoreLengthRow : OpenClaim := { program := "ytdljfikgmhdedaa", sum := "8358ee2dd87f3096d2533b203ecce259b355e45f3e887cd5b588ff20f4a34e4d", func := "loop.example/icecores/laws.FnCoreLength", spec := "fnCoreLength", apart := false }
def FnCoreLengthSaid : Prop := fnCoreLengthRow.holds Try.pinned (OpenSpec.ofChange fnCoreLengthSpec)

/-- ITS FALSE NEIGHBOUR: 'it returns false'. Refute it at one input. -/
def fnCoreLengthWrong : ChangeSpec := { name := "fnCoreLength", fn := fun _ => fun
  | [d1, d2] => { results := [.lit (.bool false)], args := [d1, d2] }
  | _ => none }
def FnCoreLengthWrongFalsely : Prop := fnCoreLengthRow.holds Try.pinned (OpenSpec.ofChange fnCoreLengthWrong)

/-- 'laws.FnCoreHas': WHATEVER THE INPUT: true; the input reads as it did. -/
def fnCoreHasSpec : ChangeSpec := { name := "fnCoreHas", fn := fun _ => fun
  | [d] => { results := [.lit (.bool true)], args := [d] }
  | _ => none }
def fnCoreHasRow : OpenClaim := { program := "ytdljfikgmhdedaa", sum := "8358ee2dd87f3096d2533b203ecce259b355e45f3e887cd5b588ff20f4a34e4d", func := "loop.example/icecores/laws.FnCoreHas", spec := "fnCoreHas", apart := false }
def FnCoreHasSaid : Prop := fnCoreHasRow.holds Try.pinned (OpenSpec.ofChange fnCoreHasSpec)

/-- ITS FALSE NEIGHBOUR: 'it returns false'. Refute it at one input. -/
def fnCoreHasWrong : ChangeSpec := { name := "fnCoreHas", fn := fun _ => fun
  | [d] => { results := [.lit (.bool false)], args := [d] }
  | _ => none }
def FnCoreHasWrongFalsely : Prop := fnCoreHasRow.holds Try.pinned (OpenSpec.ofChange fnCoreHasWrong)

/-- 'laws.FnCoreGaps': WHATEVER THE INPUT: true; the input reads as it did. -/
def fnCoreGapsSpec : ChangeSpec := { name := "fnCoreGaps", fn := fun _ => fun
  | [d] => { results := [.lit (.bool true)], args := [d] }
  | _ => none }
def fnCoreGapsRow : OpenClaim := { program := "ytdljfikgmhdedaa", sum := "8358ee2dd87f3096d2533b203ecce259b355e45f3e887cd5b588ff20f4a34e4d", func := "loop.example/icecores/laws.FnCoreGaps", spec := "fnCoreGaps", apart := false }
def FnCoreGapsSaid : Prop := fnCoreGapsRow.holds Try.pinned (OpenSpec.ofChange fnCoreGapsSpec)

/-- ITS FALSE NEIGHBOUR: 'it returns false'. Refute it at one input. -/
def fnCoreGapsWrong : ChangeSpec := { name := "fnCoreGaps", fn := fun _ => fun
  | [d] => { results := [.lit (.bool false)], args := [d] }
  | _ => none }
def FnCoreGapsWrongFalsely : Prop := fnCoreGapsRow.holds Try.pinned (OpenSpec.ofChange fnCoreGapsWrong)

/-- 'laws.FnCoreGapsGaps': WHATEVER THE INPUT: true; the input reads as it did. -/
def fnCoreGapsGapsSpec : ChangeSpec := { name := "fnCoreGapsGaps", fn := fun _ => fun
  | [d] => { results := [.lit (.bool true)], args := [d] }
  | _ => none }
def fnCoreGapsGapsRow : OpenClaim := { program := "ytdljfikgmhdedaa", sum := "8358ee2dd87f3096d2533b203ecce259b355e45f3e887cd5b588ff20f4a34e4d", func := "loop.example/icecores/laws.FnCoreGapsGaps", spec := "fnCoreGapsGaps", apart := false }
def FnCoreGapsGapsSaid : Prop := fnCoreGapsGapsRow.holds Try.pinned (OpenSpec.ofChange fnCoreGapsGapsSpec)

/-- ITS FALSE NEIGHBOUR: 'it returns false'. Refute it at one input. -/
def fnCoreGapsGapsWrong : ChangeSpec := { name := "fnCoreGapsGaps", fn := fun _ => fun
  | [d] => { results := [.lit (.bool false)], args := [d] }
  | _ => none }
def FnCoreGapsGapsWrongFalsely : Prop := fnCoreGapsGapsRow.holds Try.pinned (OpenSpec.ofChange fnCoreGapsGapsWrong)

/-- 'laws.FnCoreJoin': WHATEVER THE INPUT: true; the input reads as it did. -/
def fnCoreJoinSpec : ChangeSpec := { name := "fnCoreJoin", fn := fun _ => fun
  | [d] => { results := [.lit (.bool true)], args := [d] }
  | _ => none }
def fnCoreJoinRow : OpenClaim := { program := "ytdljfikgmhdedaa", sum := "8358ee2dd87f3096d2533b203ecce259b355e45f3e887cd5b588ff20f4a34e4d", func := "loop.example/icecores/laws.FnCoreJoin", spec := "fnCoreJoin", apart := false }
def FnCoreJoinSaid : Prop := fnCoreJoinRow.holds Try.pinned (OpenSpec.ofChange fnCoreJoinSpec)

/-- ITS FALSE NEIGHBOUR: 'it returns false'. Refute it at one input. -/
def fnCoreJoinWrong : ChangeSpec := { name := "fnCoreJoin", fn := fun _ => fun
  | [d] => { results := [.lit (.bool false)], args := [d] }
  | _ => none }
def FnCoreJoinWrongFalsely : Prop := fnCoreJoinRow.holds Try.pinned (OpenSpec.ofChange fnCoreJoinWrong)

/-- 'laws.FnCoreCut': WHATEVER THE INPUT: true; the input reads as it did. -/
def fnCoreCutSpec : ChangeSpec := { name := "fnCoreCut", fn := fun _ => fun
  | [d] => { results := [.lit (.bool true)], args := [d] }
  | _ => none }
def fnCoreCutRow : OpenClaim := { program := "ytdljfikgmhdedaa", sum := "8358ee2dd87f3096d2533b203ecce259b355e45f3e887cd5b588ff20f4a34e4d", func := "loop.example/icecores/laws.FnCoreCut", spec := "fnCoreCut", apart := false }
def FnCoreCutSaid : Prop := fnCoreCutRow.holds Try.pinned (OpenSpec.ofChange fnCoreCutSpec)

/-- ITS FALSE NEIGHBOUR: 'it returns false'. Refute it at one input. -/
def fnCoreCutWrong : ChangeSpec := { name := "fnCoreCut", fn := fun _ => fun
  | [d] => { results := [.lit (.bool false)], args := [d] }
  | _ => none }
def FnCoreCutWrongFalsely : Prop := fnCoreCutRow.holds Try.pinned (OpenSpec.ofChange fnCoreCutWrong)

/-- 'laws.FnCoreCutHas': WHATEVER THE INPUT: true; the input reads as it did. -/
def fnCoreCutHasSpec : ChangeSpec := { name := "fnCoreCutHas", fn := fun _ => fun
  | [d1, d2] => { results := [.lit (.bool true)], args := [d1, d2] }
  | _ => none }
def fnCoreCutHasRow : OpenClaim := { program := "ytdljfikgmhdedaa", sum := "8358ee2dd87f3096d2533b203ecce259b355e45f3e887cd5b588ff20f4a34e4d", func := "loop.example/icecores/laws.FnCoreCutHas", spec := "fnCoreCutHas", apart := false }
def FnCoreCutHasSaid : Prop := fnCoreCutHasRow.holds Try.pinned (OpenSpec.ofChange fnCoreCutHasSpec)

/-- ITS FALSE NEIGHBOUR: 'it returns false'. Refute it at one input. -/
def fnCoreCutHasWrong : ChangeSpec := { name := "fnCoreCutHas", fn := fun _ => fun
  | [d1, d2] => { results := [.lit (.bool false)], args := [d1, d2] }
  | _ => none }
def FnCoreCutHasWrongFalsely : Prop := fnCoreCutHasRow.holds Try.pinned (OpenSpec.ofChange fnCoreCutHasWrong)

/-- 'laws.FnCoreBetween': WHATEVER THE INPUT: true; the input reads as it did. -/
def fnCoreBetweenSpec : ChangeSpec := { name := "fnCoreBetween", fn := fun _ => fun
  | [d1, d2] => { results := [.lit (.bool true)], args := [d1, d2] }
  | _ => none }
def fnCoreBetweenRow : OpenClaim := { program := "ytdljfikgmhdedaa", sum := "8358ee2dd87f3096d2533b203ecce259b355e45f3e887cd5b588ff20f4a34e4d", func := "loop.example/icecores/laws.FnCoreBetween", spec := "fnCoreBetween", recurses := true, apart := false }
def FnCoreBetweenSaid : Prop := fnCoreBetweenRow.holds Try.pinned (OpenSpec.ofChange fnCoreBetweenSpec)

/-- ITS FALSE NEIGHBOUR: 'it returns false'. Refute it at one input. -/
def fnCoreBetweenWrong : ChangeSpec := { name := "fnCoreBetween", fn := fun _ => fun
  | [d1, d2] => { results := [.lit (.bool false)], args := [d1, d2] }
  | _ => none }
def FnCoreBetweenWrongFalsely : Prop := fnCoreBetweenRow.holds Try.pinned (OpenSpec.ofChange fnCoreBetweenWrong)

/- THE SECOND FORM. 'bulk': how many values and letters a reading holds, each counted each time it is reached (what is shared counts as often as it is met; a slice's spare places count too). A statement '..UptoSaid' is the law's where the arguments, and the package variables that the reading takes, are together of bulk at most 1048576: NARROWER than '..Said'. Prove '..Said' where nothing that the law and all that it calls make is longer than what came in: it says more and counts as full. Else prove '..UptoSaid'. A law counts once. -/
mutual
def uptoBulk {H : Type} : DataW H → Nat
  | .lit (.string bytes) => bytes.length + 1
  | .lit _ => 1
  | .nil => 1
  | .ptr d => uptoBulk d + 1
  | .slice elems spare => uptoBulkAll elems + uptoBulkAll spare + 1
  | .agg parts => uptoBulkAll parts + 1
  | .iface _ d => uptoBulk d + 1
  | .map entries => uptoBulkEntries entries + 1
  | .held _ => 1
def uptoBulkAll {H : Type} : List (DataW H) → Nat
  | [] => 0
  | d :: r => uptoBulk d + uptoBulkAll r
def uptoBulkEntries {H : Type} : List (Lit × DataW H) → Nat
  | [] => 0
  | x :: r => uptoBulkEntry x + uptoBulkEntries r
def uptoBulkEntry {H : Type} : Lit × DataW H → Nat
  | (.string bytes, d) => bytes.length + uptoBulk d + 1
  | (_, d) => uptoBulk d + 1
 end
def uptoSmall : (H : Type) → List (DataW H) → Bool := fun _ ds => decide (uptoBulkAll ds ≤ 1048576)
def OpenSpec.upto (s : _root_.Go.ChangeSpec) : _root_.Go.OpenSpec := { _root_.Go.OpenSpec.ofChange s with cond := some uptoSmall }

/-- 'laws.FnCore', WHERE WHAT IT READS IS OF BULK AT MOST 1048576: true; the input reads as it did. -/
def fnCoreUptoRow : OpenClaim := { program := "ytdljfikgmhdedaa", sum := "8358ee2dd87f3096d2533b203ecce259b355e45f3e887cd5b588ff20f4a34e4d", func := "loop.example/icecores/laws.FnCore", spec := "fnCore", apart := false, narrowed := true }
def FnCoreUptoSaid : Prop := fnCoreUptoRow.holds Try.pinned (OpenSpec.upto fnCoreSpec)

/-- 'laws.FnCoreLength', WHERE WHAT IT READS IS OF BULK AT MOST 1048576: true; the input reads as it did. -/
def fnCoreLengthUptoRow : OpenClaim := { program := "ytdljfikgmhdedaa", sum := "8358ee2dd87f3096d2533b203ecce259b355e45f3e887cd5b588ff20f4a34e4d", func := "loop.example/icecores/laws.FnCoreLength", spec := "fnCoreLength", apart := false, narrowed := true }
def FnCoreLengthUptoSaid : Prop := fnCoreLengthUptoRow.holds Try.pinned (OpenSpec.upto fnCoreLengthSpec)

/-- 'laws.FnCoreHas', WHERE WHAT IT READS IS OF BULK AT MOST 1048576: true; the input reads as it did. -/
def fnCoreHasUptoRow : OpenClaim := { program := "ytdljfikgmhdedaa", sum := "8358ee2dd87f3096d2533b203ecce259b355e45f3e887cd5b588ff20f4a34e4d", func := "loop.example/icecores/laws.FnCoreHas", spec := "fnCoreHas", apart := false, narrowed := true }
def FnCoreHasUptoSaid : Prop := fnCoreHasUptoRow.holds Try.pinned (OpenSpec.upto fnCoreHasSpec)

/-- 'laws.FnCoreGaps', WHERE WHAT IT READS IS OF BULK AT MOST 1048576: true; the input reads as it did. -/
def fnCoreGapsUptoRow : OpenClaim := { program := "ytdljfikgmhdedaa", sum := "8358ee2dd87f3096d2533b203ecce259b355e45f3e887cd5b588ff20f4a34e4d", func := "loop.example/icecores/laws.FnCoreGaps", spec := "fnCoreGaps", apart := false, narrowed := true }
def FnCoreGapsUptoSaid : Prop := fnCoreGapsUptoRow.holds Try.pinned (OpenSpec.upto fnCoreGapsSpec)

/-- 'laws.FnCoreGapsGaps', WHERE WHAT IT READS IS OF BULK AT MOST 1048576: true; the input reads as it did. -/
def fnCoreGapsGapsUptoRow : OpenClaim := { program := "ytdljfikgmhdedaa", sum := "8358ee2dd87f3096d2533b203ecce259b355e45f3e887cd5b588ff20f4a34e4d", func := "loop.example/icecores/laws.FnCoreGapsGaps", spec := "fnCoreGapsGaps", apart := false, narrowed := true }
def FnCoreGapsGapsUptoSaid : Prop := fnCoreGapsGapsUptoRow.holds Try.pinned (OpenSpec.upto fnCoreGapsGapsSpec)

/-- 'laws.FnCoreJoin', WHERE WHAT IT READS IS OF BULK AT MOST 1048576: true; the input reads as it did. -/
def fnCoreJoinUptoRow : OpenClaim := { program := "ytdljfikgmhdedaa", sum := "8358ee2dd87f3096d2533b203ecce259b355e45f3e887cd5b588ff20f4a34e4d", func := "loop.example/icecores/laws.FnCoreJoin", spec := "fnCoreJoin", apart := false, narrowed := true }
def FnCoreJoinUptoSaid : Prop := fnCoreJoinUptoRow.holds Try.pinned (OpenSpec.upto fnCoreJoinSpec)

/-- 'laws.FnCoreCut', WHERE WHAT IT READS IS OF BULK AT MOST 1048576: true; the input reads as it did. -/
def fnCoreCutUptoRow : OpenClaim := { program := "ytdljfikgmhdedaa", sum := "8358ee2dd87f3096d2533b203ecce259b355e45f3e887cd5b588ff20f4a34e4d", func := "loop.example/icecores/laws.FnCoreCut", spec := "fnCoreCut", apart := false, narrowed := true }
def FnCoreCutUptoSaid : Prop := fnCoreCutUptoRow.holds Try.pinned (OpenSpec.upto fnCoreCutSpec)

/-- 'laws.FnCoreCutHas', WHERE WHAT IT READS IS OF BULK AT MOST 1048576: true; the input reads as it did. -/
def fnCoreCutHasUptoRow : OpenClaim := { program := "ytdljfikgmhdedaa", sum := "8358ee2dd87f3096d2533b203ecce259b355e45f3e887cd5b588ff20f4a34e4d", func := "loop.example/icecores/laws.FnCoreCutHas", spec := "fnCoreCutHas", apart := false, narrowed := true }
def FnCoreCutHasUptoSaid : Prop := fnCoreCutHasUptoRow.holds Try.pinned (OpenSpec.upto fnCoreCutHasSpec)

/-- 'laws.FnCoreBetween', WHERE WHAT IT READS IS OF BULK AT MOST 1048576: true; the input reads as it did. -/
def fnCoreBetweenUptoRow : OpenClaim := { program := "ytdljfikgmhdedaa", sum := "8358ee2dd87f3096d2533b203ecce259b355e45f3e887cd5b588ff20f4a34e4d", func := "loop.example/icecores/laws.FnCoreBetween", spec := "fnCoreBetween", recurses := true, apart := false, narrowed := true }
def FnCoreBetweenUptoSaid : Prop := fnCoreBetweenUptoRow.holds Try.pinned (OpenSpec.upto fnCoreBetweenSpec)

end Rows
end Go.Proofs.Ytdljfikgmhdedaa
