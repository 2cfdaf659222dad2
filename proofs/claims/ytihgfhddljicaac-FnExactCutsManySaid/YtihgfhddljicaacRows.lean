/-
  No cell of these rows narrows 'for every input' (looked for: loops, veiled, ifaces, maps, wideKeys, modest, calm, conditions, laid).
  DERIVED. THE GIVEN ROWS OF THIS SEAT. 4 by the template 'for every input the law returns true; each argument reads behind the call as it read before'; 0 by the template 'total and deterministic' (their statements: YtihgfhddljicaacTotals.lean).
  GIVEN WITH THE SEED: the statements are not yours to turn. If you find one false, say at which input.
  Laid BY PROGRAM, IN A SANDBOX (cutbox-rows.mjs): the forced cells as the released guide's own fill.sh prints them over the translation 8f0d98728b23ff4b… (all of the seat's roots in one cut). By AI agents, Wed Nov 11 2026. No macro, syntax, notation, axiom, sorry.
-/
import Derived.Test.YtihgfhddljicaacChecked
import GoSem.Claim
import GoSem.ClaimJoined
import GoSem.ClaimMapViews
import Derived.JoinedTies
import Derived.KernelRfl
namespace Go.Proofs.Ytihgfhddljicaac
/- THE CELL 'sum', in the pinned program and in every row, IS THE sha256 OF THE DUMP (.gsa) THAT YtihgfhddljicaacProg.lean LOADS. Nothing in Lean hashes anything: it is a label: what it is worth is what the hold of that sum in a sandbox is worth. -/
noncomputable def Try.pinned : Pinned := { name := "ytihgfhddljicaac", sum := "8f0d98728b23ff4bc30bf65cb08c81d6aa8a7557d8b94ad12573f02e2fb28b6d", checked := Try.checked }
namespace Rows
def none {H : Type} : Left H := { results := [], args := [] }

/-- 'laws.FnExactCutsCost': WHATEVER THE INPUT: true; the input reads as it did. -/
def fnExactCutsCostSpec : ChangeSpec := { name := "fnExactCutsCost", fn := fun _ => fun
  | [d1, d2, d3, d4] => { results := [.lit (.bool true)], args := [d1, d2, d3, d4] }
  | _ => none }
def fnExactCutsCostRow : OpenClaim := { program := "ytihgfhddljicaac", sum := "8f0d98728b23ff4bc30bf65cb08c81d6aa8a7557d8b94ad12573f02e2fb28b6d", func := "loop.example/icecores/laws.FnExactCutsCost", spec := "fnExactCutsCost", apart := false }
def FnExactCutsCostSaid : Prop := fnExactCutsCostRow.holds Try.pinned (OpenSpec.ofChange fnExactCutsCostSpec)

/-- ITS FALSE NEIGHBOUR: 'it returns false'. Refute it at one input. -/
def fnExactCutsCostWrong : ChangeSpec := { name := "fnExactCutsCost", fn := fun _ => fun
  | [d1, d2, d3, d4] => { results := [.lit (.bool false)], args := [d1, d2, d3, d4] }
  | _ => none }
def FnExactCutsCostWrongFalsely : Prop := fnExactCutsCostRow.holds Try.pinned (OpenSpec.ofChange fnExactCutsCostWrong)

/-- 'laws.FnExactCutsMany': WHATEVER THE INPUT: true; the input reads as it did. -/
def fnExactCutsManySpec : ChangeSpec := { name := "fnExactCutsMany", fn := fun _ => fun
  | [d1, d2, d3] => { results := [.lit (.bool true)], args := [d1, d2, d3] }
  | _ => none }
def fnExactCutsManyRow : OpenClaim := { program := "ytihgfhddljicaac", sum := "8f0d98728b23ff4bc30bf65cb08c81d6aa8a7557d8b94ad12573f02e2fb28b6d", func := "loop.example/icecores/laws.FnExactCutsMany", spec := "fnExactCutsMany", unfollowed := true, recurses := true, apart := false }
def FnExactCutsManySaid : Prop := fnExactCutsManyRow.holds Try.pinned (OpenSpec.ofChange fnExactCutsManySpec)

/-- ITS FALSE NEIGHBOUR: 'it returns false'. Refute it at one input. -/
def fnExactCutsManyWrong : ChangeSpec := { name := "fnExactCutsMany", fn := fun _ => fun
  | [d1, d2, d3] => { results := [.lit (.bool false)], args := [d1, d2, d3] }
  | _ => none }
def FnExactCutsManyWrongFalsely : Prop := fnExactCutsManyRow.holds Try.pinned (OpenSpec.ofChange fnExactCutsManyWrong)

/-- 'laws.FnExactCutsBest': WHATEVER THE INPUT: true; the input reads as it did. -/
def fnExactCutsBestSpec : ChangeSpec := { name := "fnExactCutsBest", fn := fun _ => fun
  | [d1, d2, d3] => { results := [.lit (.bool true)], args := [d1, d2, d3] }
  | _ => none }
def fnExactCutsBestRow : OpenClaim := { program := "ytihgfhddljicaac", sum := "8f0d98728b23ff4bc30bf65cb08c81d6aa8a7557d8b94ad12573f02e2fb28b6d", func := "loop.example/icecores/laws.FnExactCutsBest", spec := "fnExactCutsBest", unfollowed := true, recurses := true, apart := false }
def FnExactCutsBestSaid : Prop := fnExactCutsBestRow.holds Try.pinned (OpenSpec.ofChange fnExactCutsBestSpec)

/-- ITS FALSE NEIGHBOUR: 'it returns false'. Refute it at one input. -/
def fnExactCutsBestWrong : ChangeSpec := { name := "fnExactCutsBest", fn := fun _ => fun
  | [d1, d2, d3] => { results := [.lit (.bool false)], args := [d1, d2, d3] }
  | _ => none }
def FnExactCutsBestWrongFalsely : Prop := fnExactCutsBestRow.holds Try.pinned (OpenSpec.ofChange fnExactCutsBestWrong)

/-- 'laws.FnExactCutsYears': WHATEVER THE INPUT: true; the input reads as it did. -/
def fnExactCutsYearsSpec : ChangeSpec := { name := "fnExactCutsYears", fn := fun _ => fun
  | [d1, d2, d3] => { results := [.lit (.bool true)], args := [d1, d2, d3] }
  | _ => none }
def fnExactCutsYearsRow : OpenClaim := { program := "ytihgfhddljicaac", sum := "8f0d98728b23ff4bc30bf65cb08c81d6aa8a7557d8b94ad12573f02e2fb28b6d", func := "loop.example/icecores/laws.FnExactCutsYears", spec := "fnExactCutsYears", unfollowed := true, recurses := true, apart := false }
def FnExactCutsYearsSaid : Prop := fnExactCutsYearsRow.holds Try.pinned (OpenSpec.ofChange fnExactCutsYearsSpec)

/-- ITS FALSE NEIGHBOUR: 'it returns false'. Refute it at one input. -/
def fnExactCutsYearsWrong : ChangeSpec := { name := "fnExactCutsYears", fn := fun _ => fun
  | [d1, d2, d3] => { results := [.lit (.bool false)], args := [d1, d2, d3] }
  | _ => none }
def FnExactCutsYearsWrongFalsely : Prop := fnExactCutsYearsRow.holds Try.pinned (OpenSpec.ofChange fnExactCutsYearsWrong)

/- THE SECOND FORM. 'bulk': how many values and letters a reading holds, each counted each time it is reached (what is shared counts as often as it is met; a slice's spare places count too). A statement '..UptoSaid' is the law's where the arguments, and the package variables that the reading takes, are together of bulk at most 1048576: NARROWER than '..Said'. Prove '..Said' where nothing that the law and all that it calls make is longer than what came in: it says more and counts as full. Else prove '..UptoSaid'. A law counts once. -/
mutual
def uptoBulk {H : Type} : DataW H → Nat
  | .lit (.string bytes) => bytes.length + 1
  | .lit _ => 1
  | .nil => 1
  | .ptr d => uptoBulk d + 1
  | .slice elems spare => uptoBulkAll elems + uptoBulkAll spare + 1
  | .agg parts => uptoBulkAll parts + 1
  | .iface _ d => uptoBulk d + 1
  | .map entries => uptoBulkEntries entries + 1
  | .held _ => 1
def uptoBulkAll {H : Type} : List (DataW H) → Nat
  | [] => 0
  | d :: r => uptoBulk d + uptoBulkAll r
def uptoBulkEntries {H : Type} : List (Lit × DataW H) → Nat
  | [] => 0
  | x :: r => uptoBulkEntry x + uptoBulkEntries r
def uptoBulkEntry {H : Type} : Lit × DataW H → Nat
  | (.string bytes, d) => bytes.length + uptoBulk d + 1
  | (_, d) => uptoBulk d + 1
 end
def uptoSmall : (H : Type) → List (DataW H) → Bool := fun _ ds => decide (uptoBulkAll ds ≤ 1048576)
def OpenSpec.upto (s : _root_.Go.ChangeSpec) : _root_.Go.OpenSpec := { _root_.Go.OpenSpec.ofChange s with cond := some uptoSmall }

/-- 'laws.FnExactCutsCost', WHERE WHAT IT READS IS OF BULK AT MOST 1048576: true; the input reads as it did. -/
def fnExactCutsCostUptoRow : OpenClaim := { program := "ytihgfhddljicaac", sum := "8f0d98728b23ff4bc30bf65cb08c81d6aa8a7557d8b94ad12573f02e2fb28b6d", func := "loop.example/icecores/laws.FnExactCutsCost", spec := "fnExactCutsCost", apart := false, narrowed := true }
def FnExactCutsCostUptoSaid : Prop := fnExactCutsCostUptoRow.holds Try.pinned (OpenSpec.upto fnExactCutsCostSpec)

/-- 'laws.FnExactCutsMany', WHERE WHAT IT READS IS OF BULK AT MOST 1048576: true; the input reads as it did. -/
def fnExactCutsManyUptoRow : OpenClaim := { program := "ytihgfhddljicaac", sum := "8f0d98728b23ff4bc30bf65cb08c81d6aa8a7557d8b94ad12573f02e2fb28b6d", func := "loop.example/icecores/laws.FnExactCutsMany", spec := "fnExactCutsMany", unfollowed := true, recurses := true, apart := false, narrowed := true }
def FnExactCutsManyUptoSaid : Prop := fnExactCutsManyUptoRow.holds Try.pinned (OpenSpec.upto fnExactCutsManySpec)

/-- 'laws.FnExactCutsBest', WHERE WHAT IT READS IS OF BULK AT MOST 1048576: true; the input reads as it did. -/
def fnExactCutsBestUptoRow : OpenClaim := { program := "ytihgfhddljicaac", sum := "8f0d98728b23ff4bc30bf65cb08c81d6aa8a7557d8b94ad12573f02e2fb28b6d", func := "loop.example/icecores/laws.FnExactCutsBest", spec := "fnExactCutsBest", unfollowed := true, recurses := true, apart := false, narrowed := true }
def FnExactCutsBestUptoSaid : Prop := fnExactCutsBestUptoRow.holds Try.pinned (OpenSpec.upto fnExactCutsBestSpec)

/-- 'laws.FnExactCutsYears', WHERE WHAT IT READS IS OF BULK AT MOST 1048576: true; the input reads as it did. -/
def fnExactCutsYearsUptoRow : OpenClaim := { program := "ytihgfhddljicaac", sum := "8f0d98728b23ff4bc30bf65cb08c81d6aa8a7557d8b94ad12573f02e2fb28b6d", func := "loop.example/icecores/laws.FnExactCutsYears", spec := "fnExactCutsYears", unfollowed := true, recurses := true, apart := false, narrowed := true }
def FnExactCutsYearsUptoSaid : Prop := fnExactCutsYearsUptoRow.holds Try.pinned (OpenSpec.upto fnExactCutsYearsSpec)

end Rows
end Go.Proofs.Ytihgfhddljicaac
