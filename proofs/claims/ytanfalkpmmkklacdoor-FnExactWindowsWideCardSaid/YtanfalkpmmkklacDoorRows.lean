/-
  NARROWER THAN 'FOR EVERY INPUT', by the rows' own cells (each row's printed sentence says how): FnExactWindowsTight: ifaces, laid · FnExactWindowsYoung: ifaces, laid · FnExactWindowsOld: ifaces, laid · FnExactWindowsWide: ifaces, laid.
  DERIVED. THE GIVEN ROWS OF THIS SEAT. 4 by the template 'for every input the law returns true; each argument reads behind the call as it read before'; 0 by the template 'total and deterministic' (their statements: YtanfalkpmmkklacDoorTotals.lean).
  GIVEN WITH THE SEED: the statements are not yours to turn. If you find one false, say at which input.
  Laid BY PROGRAM, IN A SANDBOX (cutbox-rows.mjs): the forced cells as the released guide's own fill.sh prints them over the translation 645b99f2af567d76… (all of the seat's roots in one cut). By AI agents, Wed Nov 11 2026. No macro, syntax, notation, axiom, sorry.
-/
import Derived.Test.YtanfalkpmmkklacDoorChecked
import GoSem.Claim
import GoSem.ClaimJoined
import GoSem.ClaimMapViews
import Derived.JoinedTies
import Derived.KernelRfl
namespace Go.Proofs.YtanfalkpmmkklacDoor
/- THE CELL 'sum', in the pinned program and in every row, IS THE sha256 OF THE DUMP (.gsa) THAT YtanfalkpmmkklacDoorProg.lean LOADS. Nothing in Lean hashes anything: it is a label: what it is worth is what the hold of that sum in a sandbox is worth. -/
noncomputable def Tryd.pinned : Pinned := { name := "ytanfalkpmmkklacdoor", sum := "645b99f2af567d768272c4bf5d40d97503c6c0be4d2ebc286fb6c26b01c3c8c2", checked := Tryd.checked }
namespace Rows
def none {H : Type} : Left H := { results := [], args := [] }

/- WHAT THE LISTED PACKAGE-LEVEL VARIABLES READ AS WHEN THE CALL BEGINS. Each datum BY PROGRAM (the guide's laid-datum.mjs) off the statement by which the dump's own 'gosem.cut.vars' lays the variable. In a bare row this is a premise. The card (YtanfalkpmmkklacDoorCards.lean) ties it to the program's text. -/
def laid_loop_example_icecores_impl_errNoAges {H : Type} : DataW H := .iface "*errors.errorString" (.ptr (.agg [.lit (.string [110, 111, 32, 97, 103, 101, 115, 32, 102, 105, 116, 32, 116, 104, 101, 115, 101, 32, 119, 105, 110, 100, 111, 119, 115])]))

/-- 'laws.FnExactWindowsTight': WHATEVER THE INPUT: true; the input reads as it did. -/
def fnExactWindowsTightSpec : ChangeSpec := { name := "fnExactWindowsTight", vars := ["loop.example/icecores/impl.errNoAges"], fn := fun _ => fun
  | [d1, d2, g1] => { results := [.lit (.bool true)], args := [d1, d2], vars := [g1] }
  | _ => none }
def fnExactWindowsTightRow : OpenClaim := { program := "ytanfalkpmmkklacdoor", sum := "645b99f2af567d768272c4bf5d40d97503c6c0be4d2ebc286fb6c26b01c3c8c2", func := "loop.example/icecores/laws.FnExactWindowsTight", spec := "fnExactWindowsTight", inPlace := ["internal/reflectlite.TypeOf"], unfollowed := true, recurses := true, named := ["loop.example/icecores/impl.errNoAges"], ifaces := true, apart := false, laid := [("loop.example/icecores/impl.errNoAges", laid_loop_example_icecores_impl_errNoAges)] }
def FnExactWindowsTightSaid : Prop := fnExactWindowsTightRow.holds Tryd.pinned (OpenSpec.ofChange fnExactWindowsTightSpec)

/-- ITS FALSE NEIGHBOUR: 'it returns false'. Refute it at one input. -/
def fnExactWindowsTightWrong : ChangeSpec := { name := "fnExactWindowsTight", vars := ["loop.example/icecores/impl.errNoAges"], fn := fun _ => fun
  | [d1, d2, g1] => { results := [.lit (.bool false)], args := [d1, d2], vars := [g1] }
  | _ => none }
def FnExactWindowsTightWrongFalsely : Prop := fnExactWindowsTightRow.holds Tryd.pinned (OpenSpec.ofChange fnExactWindowsTightWrong)

/-- 'laws.FnExactWindowsYoung': WHATEVER THE INPUT: true; the input reads as it did. -/
def fnExactWindowsYoungSpec : ChangeSpec := { name := "fnExactWindowsYoung", vars := ["loop.example/icecores/impl.errNoAges"], fn := fun _ => fun
  | [d1, d2, g1] => { results := [.lit (.bool true)], args := [d1, d2], vars := [g1] }
  | _ => none }
def fnExactWindowsYoungRow : OpenClaim := { program := "ytanfalkpmmkklacdoor", sum := "645b99f2af567d768272c4bf5d40d97503c6c0be4d2ebc286fb6c26b01c3c8c2", func := "loop.example/icecores/laws.FnExactWindowsYoung", spec := "fnExactWindowsYoung", inPlace := ["internal/reflectlite.TypeOf"], unfollowed := true, recurses := true, named := ["loop.example/icecores/impl.errNoAges"], ifaces := true, apart := false, laid := [("loop.example/icecores/impl.errNoAges", laid_loop_example_icecores_impl_errNoAges)] }
def FnExactWindowsYoungSaid : Prop := fnExactWindowsYoungRow.holds Tryd.pinned (OpenSpec.ofChange fnExactWindowsYoungSpec)

/-- ITS FALSE NEIGHBOUR: 'it returns false'. Refute it at one input. -/
def fnExactWindowsYoungWrong : ChangeSpec := { name := "fnExactWindowsYoung", vars := ["loop.example/icecores/impl.errNoAges"], fn := fun _ => fun
  | [d1, d2, g1] => { results := [.lit (.bool false)], args := [d1, d2], vars := [g1] }
  | _ => none }
def FnExactWindowsYoungWrongFalsely : Prop := fnExactWindowsYoungRow.holds Tryd.pinned (OpenSpec.ofChange fnExactWindowsYoungWrong)

/-- 'laws.FnExactWindowsOld': WHATEVER THE INPUT: true; the input reads as it did. -/
def fnExactWindowsOldSpec : ChangeSpec := { name := "fnExactWindowsOld", vars := ["loop.example/icecores/impl.errNoAges"], fn := fun _ => fun
  | [d1, d2, g1] => { results := [.lit (.bool true)], args := [d1, d2], vars := [g1] }
  | _ => none }
def fnExactWindowsOldRow : OpenClaim := { program := "ytanfalkpmmkklacdoor", sum := "645b99f2af567d768272c4bf5d40d97503c6c0be4d2ebc286fb6c26b01c3c8c2", func := "loop.example/icecores/laws.FnExactWindowsOld", spec := "fnExactWindowsOld", inPlace := ["internal/reflectlite.TypeOf"], unfollowed := true, recurses := true, named := ["loop.example/icecores/impl.errNoAges"], ifaces := true, apart := false, laid := [("loop.example/icecores/impl.errNoAges", laid_loop_example_icecores_impl_errNoAges)] }
def FnExactWindowsOldSaid : Prop := fnExactWindowsOldRow.holds Tryd.pinned (OpenSpec.ofChange fnExactWindowsOldSpec)

/-- ITS FALSE NEIGHBOUR: 'it returns false'. Refute it at one input. -/
def fnExactWindowsOldWrong : ChangeSpec := { name := "fnExactWindowsOld", vars := ["loop.example/icecores/impl.errNoAges"], fn := fun _ => fun
  | [d1, d2, g1] => { results := [.lit (.bool false)], args := [d1, d2], vars := [g1] }
  | _ => none }
def FnExactWindowsOldWrongFalsely : Prop := fnExactWindowsOldRow.holds Tryd.pinned (OpenSpec.ofChange fnExactWindowsOldWrong)

/-- 'laws.FnExactWindowsWide': WHATEVER THE INPUT: true; the input reads as it did. -/
def fnExactWindowsWideSpec : ChangeSpec := { name := "fnExactWindowsWide", vars := ["loop.example/icecores/impl.errNoAges"], fn := fun _ => fun
  | [d1, d2, g1] => { results := [.lit (.bool true)], args := [d1, d2], vars := [g1] }
  | _ => none }
def fnExactWindowsWideRow : OpenClaim := { program := "ytanfalkpmmkklacdoor", sum := "645b99f2af567d768272c4bf5d40d97503c6c0be4d2ebc286fb6c26b01c3c8c2", func := "loop.example/icecores/laws.FnExactWindowsWide", spec := "fnExactWindowsWide", inPlace := ["internal/reflectlite.TypeOf"], unfollowed := true, recurses := true, named := ["loop.example/icecores/impl.errNoAges"], ifaces := true, apart := false, laid := [("loop.example/icecores/impl.errNoAges", laid_loop_example_icecores_impl_errNoAges)] }
def FnExactWindowsWideSaid : Prop := fnExactWindowsWideRow.holds Tryd.pinned (OpenSpec.ofChange fnExactWindowsWideSpec)

/-- ITS FALSE NEIGHBOUR: 'it returns false'. Refute it at one input. -/
def fnExactWindowsWideWrong : ChangeSpec := { name := "fnExactWindowsWide", vars := ["loop.example/icecores/impl.errNoAges"], fn := fun _ => fun
  | [d1, d2, g1] => { results := [.lit (.bool false)], args := [d1, d2], vars := [g1] }
  | _ => none }
def FnExactWindowsWideWrongFalsely : Prop := fnExactWindowsWideRow.holds Tryd.pinned (OpenSpec.ofChange fnExactWindowsWideWrong)

/- THE SECOND FORM. 'bulk': how many values and letters a reading holds, each counted each time it is reached (what is shared counts as often as it is met; a slice's spare places count too). A statement '..UptoSaid' is the law's where the arguments, and the package variables that the reading takes, are together of bulk at most 1048576: NARROWER than '..Said'. Prove '..Said' where nothing that the law and all that it calls make is longer than what came in: it says more and counts as full. Else prove '..UptoSaid'. A law counts once. -/
mutual
def uptoBulk {H : Type} : DataW H → Nat
  | .lit (.string bytes) => bytes.length + 1
  | .lit _ => 1
  | .nil => 1
  | .ptr d => uptoBulk d + 1
  | .slice elems spare => uptoBulkAll elems + uptoBulkAll spare + 1
  | .agg parts => uptoBulkAll parts + 1
  | .iface _ d => uptoBulk d + 1
  | .map entries => uptoBulkEntries entries + 1
  | .held _ => 1
def uptoBulkAll {H : Type} : List (DataW H) → Nat
  | [] => 0
  | d :: r => uptoBulk d + uptoBulkAll r
def uptoBulkEntries {H : Type} : List (Lit × DataW H) → Nat
  | [] => 0
  | x :: r => uptoBulkEntry x + uptoBulkEntries r
def uptoBulkEntry {H : Type} : Lit × DataW H → Nat
  | (.string bytes, d) => bytes.length + uptoBulk d + 1
  | (_, d) => uptoBulk d + 1
 end
def uptoSmall : (H : Type) → List (DataW H) → Bool := fun _ ds => decide (uptoBulkAll ds ≤ 1048576)
def OpenSpec.upto (s : _root_.Go.ChangeSpec) : _root_.Go.OpenSpec := { _root_.Go.OpenSpec.ofChange s with cond := some uptoSmall }

/-- 'laws.FnExactWindowsTight', WHERE WHAT IT READS IS OF BULK AT MOST 1048576: true; the input reads as it did. -/
def fnExactWindowsTightUptoRow : OpenClaim := { program := "ytanfalkpmmkklacdoor", sum := "645b99f2af567d768272c4bf5d40d97503c6c0be4d2ebc286fb6c26b01c3c8c2", func := "loop.example/icecores/laws.FnExactWindowsTight", spec := "fnExactWindowsTight", inPlace := ["internal/reflectlite.TypeOf"], unfollowed := true, recurses := true, named := ["loop.example/icecores/impl.errNoAges"], ifaces := true, apart := false, laid := [("loop.example/icecores/impl.errNoAges", laid_loop_example_icecores_impl_errNoAges)], narrowed := true }
def FnExactWindowsTightUptoSaid : Prop := fnExactWindowsTightUptoRow.holds Tryd.pinned (OpenSpec.upto fnExactWindowsTightSpec)

/-- 'laws.FnExactWindowsYoung', WHERE WHAT IT READS IS OF BULK AT MOST 1048576: true; the input reads as it did. -/
def fnExactWindowsYoungUptoRow : OpenClaim := { program := "ytanfalkpmmkklacdoor", sum := "645b99f2af567d768272c4bf5d40d97503c6c0be4d2ebc286fb6c26b01c3c8c2", func := "loop.example/icecores/laws.FnExactWindowsYoung", spec := "fnExactWindowsYoung", inPlace := ["internal/reflectlite.TypeOf"], unfollowed := true, recurses := true, named := ["loop.example/icecores/impl.errNoAges"], ifaces := true, apart := false, laid := [("loop.example/icecores/impl.errNoAges", laid_loop_example_icecores_impl_errNoAges)], narrowed := true }
def FnExactWindowsYoungUptoSaid : Prop := fnExactWindowsYoungUptoRow.holds Tryd.pinned (OpenSpec.upto fnExactWindowsYoungSpec)

/-- 'laws.FnExactWindowsOld', WHERE WHAT IT READS IS OF BULK AT MOST 1048576: true; the input reads as it did. -/
def fnExactWindowsOldUptoRow : OpenClaim := { program := "ytanfalkpmmkklacdoor", sum := "645b99f2af567d768272c4bf5d40d97503c6c0be4d2ebc286fb6c26b01c3c8c2", func := "loop.example/icecores/laws.FnExactWindowsOld", spec := "fnExactWindowsOld", inPlace := ["internal/reflectlite.TypeOf"], unfollowed := true, recurses := true, named := ["loop.example/icecores/impl.errNoAges"], ifaces := true, apart := false, laid := [("loop.example/icecores/impl.errNoAges", laid_loop_example_icecores_impl_errNoAges)], narrowed := true }
def FnExactWindowsOldUptoSaid : Prop := fnExactWindowsOldUptoRow.holds Tryd.pinned (OpenSpec.upto fnExactWindowsOldSpec)

/-- 'laws.FnExactWindowsWide', WHERE WHAT IT READS IS OF BULK AT MOST 1048576: true; the input reads as it did. -/
def fnExactWindowsWideUptoRow : OpenClaim := { program := "ytanfalkpmmkklacdoor", sum := "645b99f2af567d768272c4bf5d40d97503c6c0be4d2ebc286fb6c26b01c3c8c2", func := "loop.example/icecores/laws.FnExactWindowsWide", spec := "fnExactWindowsWide", inPlace := ["internal/reflectlite.TypeOf"], unfollowed := true, recurses := true, named := ["loop.example/icecores/impl.errNoAges"], ifaces := true, apart := false, laid := [("loop.example/icecores/impl.errNoAges", laid_loop_example_icecores_impl_errNoAges)], narrowed := true }
def FnExactWindowsWideUptoSaid : Prop := fnExactWindowsWideUptoRow.holds Tryd.pinned (OpenSpec.upto fnExactWindowsWideSpec)

end Rows
end Go.Proofs.YtanfalkpmmkklacDoor
