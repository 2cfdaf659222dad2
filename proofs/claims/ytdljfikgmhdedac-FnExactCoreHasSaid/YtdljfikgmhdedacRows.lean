/-
  No cell of these rows narrows 'for every input' (looked for: loops, veiled, ifaces, maps, wideKeys, modest, calm, conditions, laid).
  DERIVED. THE GIVEN ROWS OF THIS SEAT. 5 by the template 'for every input the law returns true; each argument reads behind the call as it read before'; 0 by the template 'total and deterministic' (their statements: YtdljfikgmhdedacTotals.lean).
  GIVEN WITH THE SEED: the statements are not yours to turn. If you find one false, say at which input.
  Laid BY PROGRAM, IN A SANDBOX (cutbox-rows.mjs): the forced cells as the released guide's own fill.sh prints them over the translation addc8b2c4448f835… (all of the seat's roots in one cut). By AI agents, Wed Nov 11 2026. No macro, syntax, notation, axiom, sorry.
-/
import Derived.Test.YtdljfikgmhdedacChecked
import GoSem.Claim
import GoSem.ClaimJoined
import GoSem.ClaimMapViews
import Derived.JoinedTies
import Derived.KernelRfl
namespace Go.Proofs.Ytdljfikgmhdedac
/- THE CELL 'sum', in the pinned program and in every row, IS THE sha256 OF THE DUMP (.gsa) THAT YtdljfikgmhdedacProg.lean LOADS. Nothing in Lean hashes anything: it is a label: what it is worth is what the hold of that sum in a sandbox is worth. -/
noncomputable def Try.pinned : Pinned := { name := "ytdljfikgmhdedac", sum := "addc8b2c4448f835da6e5c8b8c235957b73c737b0e05e921b9ba1690942aac36", checked := Try.checked }
namespace Rows
def none {H : Type} : Left H := { results := [], args := [] }

/-- 'laws.FnExactCoreHas': WHATEVER THE INPUT: true; the input reads as it did. -/
def fnExactCoreHasSpec : ChangeSpec := { name := "fnExactCoreHas", fn := fun _ => fun
  | [d1, d2] => { results := [.lit (.bool true)], args := [d1, d2] }
  | _ => none }
def fnExactCoreHasRow : OpenClaim := { program := "ytdljfikgmhdedac", sum := "addc8b2c4448f835da6e5c8b8c235957b73c737b0e05e921b9ba1690942aac36", func := "loop.example/icecores/laws.FnExactCoreHas", spec := "fnExactCoreHas", apart := false }
def FnExactCoreHasSaid : Prop := fnExactCoreHasRow.holds Try.pinned (OpenSpec.ofChange fnExactCoreHasSpec)

/-- ITS FALSE NEIGHBOUR: 'it returns false'. Refute it at one input. -/
def fnExactCoreHasWrong : ChangeSpec := { name := "fnExactCoreHas", fn := fun _ => fun
  | [d1, d2] => { results := [.lit (.bool false)], args := [d1, d2] }
  | _ => none }
def FnExactCoreHasWrongFalsely : Prop := fnExactCoreHasRow.holds Try.pinned (OpenSpec.ofChange fnExactCoreHasWrong)

/-- 'laws.FnExactCoreGaps': WHATEVER THE INPUT: true; the input reads as it did. -/
def fnExactCoreGapsSpec : ChangeSpec := { name := "fnExactCoreGaps", fn := fun _ => fun
  | [d] => { results := [.lit (.bool true)], args := [d] }
  | _ => none }
def fnExactCoreGapsRow : OpenClaim := { program := "ytdljfikgmhdedac", sum := "addc8b2c4448f835da6e5c8b8c235957b73c737b0e05e921b9ba1690942aac36", func := "loop.example/icecores/laws.FnExactCoreGaps", spec := "fnExactCoreGaps", apart := false }
def FnExactCoreGapsSaid : Prop := fnExactCoreGapsRow.holds Try.pinned (OpenSpec.ofChange fnExactCoreGapsSpec)

/-- ITS FALSE NEIGHBOUR: 'it returns false'. Refute it at one input. -/
def fnExactCoreGapsWrong : ChangeSpec := { name := "fnExactCoreGaps", fn := fun _ => fun
  | [d] => { results := [.lit (.bool false)], args := [d] }
  | _ => none }
def FnExactCoreGapsWrongFalsely : Prop := fnExactCoreGapsRow.holds Try.pinned (OpenSpec.ofChange fnExactCoreGapsWrong)

/-- 'laws.FnExactCoreJoin': WHATEVER THE INPUT: true; the input reads as it did. -/
def fnExactCoreJoinSpec : ChangeSpec := { name := "fnExactCoreJoin", fn := fun _ => fun
  | [d] => { results := [.lit (.bool true)], args := [d] }
  | _ => none }
def fnExactCoreJoinRow : OpenClaim := { program := "ytdljfikgmhdedac", sum := "addc8b2c4448f835da6e5c8b8c235957b73c737b0e05e921b9ba1690942aac36", func := "loop.example/icecores/laws.FnExactCoreJoin", spec := "fnExactCoreJoin", apart := false }
def FnExactCoreJoinSaid : Prop := fnExactCoreJoinRow.holds Try.pinned (OpenSpec.ofChange fnExactCoreJoinSpec)

/-- ITS FALSE NEIGHBOUR: 'it returns false'. Refute it at one input. -/
def fnExactCoreJoinWrong : ChangeSpec := { name := "fnExactCoreJoin", fn := fun _ => fun
  | [d] => { results := [.lit (.bool false)], args := [d] }
  | _ => none }
def FnExactCoreJoinWrongFalsely : Prop := fnExactCoreJoinRow.holds Try.pinned (OpenSpec.ofChange fnExactCoreJoinWrong)

/-- 'laws.FnExactCoreCut': WHATEVER THE INPUT: true; the input reads as it did. -/
def fnExactCoreCutSpec : ChangeSpec := { name := "fnExactCoreCut", fn := fun _ => fun
  | [d1, d2] => { results := [.lit (.bool true)], args := [d1, d2] }
  | _ => none }
def fnExactCoreCutRow : OpenClaim := { program := "ytdljfikgmhdedac", sum := "addc8b2c4448f835da6e5c8b8c235957b73c737b0e05e921b9ba1690942aac36", func := "loop.example/icecores/laws.FnExactCoreCut", spec := "fnExactCoreCut", apart := false }
def FnExactCoreCutSaid : Prop := fnExactCoreCutRow.holds Try.pinned (OpenSpec.ofChange fnExactCoreCutSpec)

/-- ITS FALSE NEIGHBOUR: 'it returns false'. Refute it at one input. -/
def fnExactCoreCutWrong : ChangeSpec := { name := "fnExactCoreCut", fn := fun _ => fun
  | [d1, d2] => { results := [.lit (.bool false)], args := [d1, d2] }
  | _ => none }
def FnExactCoreCutWrongFalsely : Prop := fnExactCoreCutRow.holds Try.pinned (OpenSpec.ofChange fnExactCoreCutWrong)

/-- 'laws.FnExactCoreBetween': WHATEVER THE INPUT: true; the input reads as it did. -/
def fnExactCoreBetweenSpec : ChangeSpec := { name := "fnExactCoreBetween", fn := fun _ => fun
  | [d1, d2, d3] => { results := [.lit (.bool true)], args := [d1, d2, d3] }
  | _ => none }
def fnExactCoreBetweenRow : OpenClaim := { program := "ytdljfikgmhdedac", sum := "addc8b2c4448f835da6e5c8b8c235957b73c737b0e05e921b9ba1690942aac36", func := "loop.example/icecores/laws.FnExactCoreBetween", spec := "fnExactCoreBetween", recurses := true, apart := false }
def FnExactCoreBetweenSaid : Prop := fnExactCoreBetweenRow.holds Try.pinned (OpenSpec.ofChange fnExactCoreBetweenSpec)

/-- ITS FALSE NEIGHBOUR: 'it returns false'. Refute it at one input. -/
def fnExactCoreBetweenWrong : ChangeSpec := { name := "fnExactCoreBetween", fn := fun _ => fun
  | [d1, d2, d3] => { results := [.lit (.bool false)], args := [d1, d2, d3] }
  | _ => none }
def FnExactCoreBetweenWrongFalsely : Prop := fnExactCoreBetweenRow.holds Try.pinned (OpenSpec.ofChange fnExactCoreBetweenWrong)

/- THE SECOND FORM. 'bulk': how many values and letters a reading holds, each counted each time it is reached (what is shared counts as often as it is met; a slice's spare places count too). A statement '..UptoSaid' is the law's where the arguments, and the package variables that the reading takes, are together of bulk at most 1048576: NARROWER than '..Said'. Prove '..Said' where nothing that the law and all that it calls make is longer than what came in: it says more and counts as full. Else prove '..UptoSaid'. A law counts once. -/
mutual
def uptoBulk {H : Type} : DataW H → Nat
  | .lit (.string bytes) => bytes.length + 1
  | .lit _ => 1
  | .nil => 1
  | .ptr d => uptoBulk d + 1
  | .slice elems spare => uptoBulkAll elems + uptoBulkAll spare + 1
  | .agg parts => uptoBulkAll parts + 1
  | .iface _ d => uptoBulk d + 1
  | .map entries => uptoBulkEntries entries + 1
  | .held _ => 1
def uptoBulkAll {H : Type} : List (DataW H) → Nat
  | [] => 0
  | d :: r => uptoBulk d + uptoBulkAll r
def uptoBulkEntries {H : Type} : List (Lit × DataW H) → Nat
  | [] => 0
  | x :: r => uptoBulkEntry x + uptoBulkEntries r
def uptoBulkEntry {H : Type} : Lit × DataW H → Nat
  | (.string bytes, d) => bytes.length + uptoBulk d + 1
  | (_, d) => uptoBulk d + 1
 end
def uptoSmall : (H : Type) → List (DataW H) → Bool := fun _ ds => decide (uptoBulkAll ds ≤ 1048576)
def OpenSpec.upto (s : _root_.Go.ChangeSpec) : _root_.Go.OpenSpec := { _root_.Go.OpenSpec.ofChange s with cond := some uptoSmall }

/-- 'laws.FnExactCoreHas', WHERE WHAT IT READS IS OF BULK AT MOST 1048576: true; the input reads as it did. -/
def fnExactCoreHasUptoRow : OpenClaim := { program := "ytdljfikgmhdedac", sum := "addc8b2c4448f835da6e5c8b8c235957b73c737b0e05e921b9ba1690942aac36", func := "loop.example/icecores/laws.FnExactCoreHas", spec := "fnExactCoreHas", apart := false, narrowed := true }
def FnExactCoreHasUptoSaid : Prop := fnExactCoreHasUptoRow.holds Try.pinned (OpenSpec.upto fnExactCoreHasSpec)

/-- 'laws.FnExactCoreGaps', WHERE WHAT IT READS IS OF BULK AT MOST 1048576: true; the input reads as it did. -/
def fnExactCoreGapsUptoRow : OpenClaim := { program := "ytdljfikgmhdedac", sum := "addc8b2c4448f835da6e5c8b8c235957b73c737b0e05e921b9ba1690942aac36", func := "loop.example/icecores/laws.FnExactCoreGaps", spec := "fnExactCoreGaps", apart := false, narrowed := true }
def FnExactCoreGapsUptoSaid : Prop := fnExactCoreGapsUptoRow.holds Try.pinned (OpenSpec.upto fnExactCoreGapsSpec)

/-- 'laws.FnExactCoreJoin', WHERE WHAT IT READS IS OF BULK AT MOST 1048576: true; the input reads as it did. -/
def fnExactCoreJoinUptoRow : OpenClaim := { program := "ytdljfikgmhdedac", sum := "addc8b2c4448f835da6e5c8b8c235957b73c737b0e05e921b9ba1690942aac36", func := "loop.example/icecores/laws.FnExactCoreJoin", spec := "fnExactCoreJoin", apart := false, narrowed := true }
def FnExactCoreJoinUptoSaid : Prop := fnExactCoreJoinUptoRow.holds Try.pinned (OpenSpec.upto fnExactCoreJoinSpec)

/-- 'laws.FnExactCoreCut', WHERE WHAT IT READS IS OF BULK AT MOST 1048576: true; the input reads as it did. -/
def fnExactCoreCutUptoRow : OpenClaim := { program := "ytdljfikgmhdedac", sum := "addc8b2c4448f835da6e5c8b8c235957b73c737b0e05e921b9ba1690942aac36", func := "loop.example/icecores/laws.FnExactCoreCut", spec := "fnExactCoreCut", apart := false, narrowed := true }
def FnExactCoreCutUptoSaid : Prop := fnExactCoreCutUptoRow.holds Try.pinned (OpenSpec.upto fnExactCoreCutSpec)

/-- 'laws.FnExactCoreBetween', WHERE WHAT IT READS IS OF BULK AT MOST 1048576: true; the input reads as it did. -/
def fnExactCoreBetweenUptoRow : OpenClaim := { program := "ytdljfikgmhdedac", sum := "addc8b2c4448f835da6e5c8b8c235957b73c737b0e05e921b9ba1690942aac36", func := "loop.example/icecores/laws.FnExactCoreBetween", spec := "fnExactCoreBetween", recurses := true, apart := false, narrowed := true }
def FnExactCoreBetweenUptoSaid : Prop := fnExactCoreBetweenUptoRow.holds Try.pinned (OpenSpec.upto fnExactCoreBetweenSpec)

end Rows
end Go.Proofs.Ytdljfikgmhdedac
