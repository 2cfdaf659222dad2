/-
  NARROWER THAN 'FOR EVERY INPUT', by the rows' own cells (each row's printed sentence says how): FnOld: ifaces, laid · FnWide: ifaces, laid · FnWideOne: ifaces, laid · FnTightFirst: ifaces, laid · FnTightSteps: ifaces, laid · FnYoungOld: ifaces, laid · FnWindowsOne: ifaces, laid.
  DERIVED. THE GIVEN ROWS OF THIS SEAT. 7 by the template 'for every input the law returns true; each argument reads behind the call as it read before'; 0 by the template 'total and deterministic' (their statements: YtanfalkpmmkklabDoorTotals.lean).
  GIVEN WITH THE SEED: the statements are not yours to turn. If you find one false, say at which input.
  Laid BY PROGRAM, IN A SANDBOX (cutbox-rows.mjs): the forced cells as the released guide's own fill.sh prints them over the translation d1e59c917910056f… (all of the seat's roots in one cut). By AI agents, Wed Nov 11 2026. No macro, syntax, notation, axiom, sorry.
-/
import Derived.Test.YtanfalkpmmkklabDoorChecked
import GoSem.Claim
import GoSem.ClaimJoined
import GoSem.ClaimMapViews
import Derived.JoinedTies
import Derived.KernelRfl
namespace Go.Proofs.YtanfalkpmmkklabDoor
/- THE CELL 'sum', in the pinned program and in every row, IS THE sha256 OF THE DUMP (.gsa) THAT YtanfalkpmmkklabDoorProg.lean LOADS. Nothing in Lean hashes anything: it is a label: what it is worth is what the hold of that sum in a sandbox is worth. -/
noncomputable def Tryd.pinned : Pinned := { name := "ytanfalkpmmkklabdoor", sum := "d1e59c917910056fa46127b521767e95f0c054fb185e84e8ab3d62eeb482e60e", checked := Tryd.checked }
namespace Rows
def none {H : Type} : Left H := { results := [], args := [] }

/- WHAT THE LISTED PACKAGE-LEVEL VARIABLES READ AS WHEN THE CALL BEGINS. Each datum BY PROGRAM (the guide's laid-datum.mjs) off the statement by which the dump's own 'gosem.cut.vars' lays the variable. In a bare row this is a premise. The card (YtanfalkpmmkklabDoorCards.lean) ties it to the program's text. -/
def laid_loop_example_icecores_impl_errNoAges {H : Type} : DataW H := .iface "*errors.errorString" (.ptr (.agg [.lit (.string [110, 111, 32, 97, 103, 101, 115, 32, 102, 105, 116, 32, 116, 104, 101, 115, 101, 32, 119, 105, 110, 100, 111, 119, 115])]))

/-- 'laws.FnOld': WHATEVER THE INPUT: true; the input reads as it did. -/
def fnOldSpec : ChangeSpec := { name := "fnOld", vars := ["loop.example/icecores/impl.errNoAges"], fn := fun _ => fun
  | [d1, d2, g1] => { results := [.lit (.bool true)], args := [d1, d2], vars := [g1] }
  | _ => none }
def fnOldRow : OpenClaim := { program := "ytanfalkpmmkklabdoor", sum := "d1e59c917910056fa46127b521767e95f0c054fb185e84e8ab3d62eeb482e60e", func := "loop.example/icecores/laws.FnOld", spec := "fnOld", inPlace := ["internal/reflectlite.TypeOf"], unfollowed := true, recurses := true, named := ["loop.example/icecores/impl.errNoAges"], ifaces := true, apart := false, laid := [("loop.example/icecores/impl.errNoAges", laid_loop_example_icecores_impl_errNoAges)] }
def FnOldSaid : Prop := fnOldRow.holds Tryd.pinned (OpenSpec.ofChange fnOldSpec)

/-- ITS FALSE NEIGHBOUR: 'it returns false'. Refute it at one input. -/
def fnOldWrong : ChangeSpec := { name := "fnOld", vars := ["loop.example/icecores/impl.errNoAges"], fn := fun _ => fun
  | [d1, d2, g1] => { results := [.lit (.bool false)], args := [d1, d2], vars := [g1] }
  | _ => none }
def FnOldWrongFalsely : Prop := fnOldRow.holds Tryd.pinned (OpenSpec.ofChange fnOldWrong)

/-- 'laws.FnWide': WHATEVER THE INPUT: true; the input reads as it did. -/
def fnWideSpec : ChangeSpec := { name := "fnWide", vars := ["loop.example/icecores/impl.errNoAges"], fn := fun _ => fun
  | [d, g1] => { results := [.lit (.bool true)], args := [d], vars := [g1] }
  | _ => none }
def fnWideRow : OpenClaim := { program := "ytanfalkpmmkklabdoor", sum := "d1e59c917910056fa46127b521767e95f0c054fb185e84e8ab3d62eeb482e60e", func := "loop.example/icecores/laws.FnWide", spec := "fnWide", inPlace := ["internal/reflectlite.TypeOf"], unfollowed := true, recurses := true, named := ["loop.example/icecores/impl.errNoAges"], ifaces := true, apart := false, laid := [("loop.example/icecores/impl.errNoAges", laid_loop_example_icecores_impl_errNoAges)] }
def FnWideSaid : Prop := fnWideRow.holds Tryd.pinned (OpenSpec.ofChange fnWideSpec)

/-- ITS FALSE NEIGHBOUR: 'it returns false'. Refute it at one input. -/
def fnWideWrong : ChangeSpec := { name := "fnWide", vars := ["loop.example/icecores/impl.errNoAges"], fn := fun _ => fun
  | [d, g1] => { results := [.lit (.bool false)], args := [d], vars := [g1] }
  | _ => none }
def FnWideWrongFalsely : Prop := fnWideRow.holds Tryd.pinned (OpenSpec.ofChange fnWideWrong)

/-- 'laws.FnWideOne': WHATEVER THE INPUT: true; the input reads as it did. -/
def fnWideOneSpec : ChangeSpec := { name := "fnWideOne", vars := ["loop.example/icecores/impl.errNoAges"], fn := fun _ => fun
  | [d1, d2, g1] => { results := [.lit (.bool true)], args := [d1, d2], vars := [g1] }
  | _ => none }
def fnWideOneRow : OpenClaim := { program := "ytanfalkpmmkklabdoor", sum := "d1e59c917910056fa46127b521767e95f0c054fb185e84e8ab3d62eeb482e60e", func := "loop.example/icecores/laws.FnWideOne", spec := "fnWideOne", inPlace := ["internal/reflectlite.TypeOf"], unfollowed := true, recurses := true, named := ["loop.example/icecores/impl.errNoAges"], ifaces := true, apart := false, laid := [("loop.example/icecores/impl.errNoAges", laid_loop_example_icecores_impl_errNoAges)] }
def FnWideOneSaid : Prop := fnWideOneRow.holds Tryd.pinned (OpenSpec.ofChange fnWideOneSpec)

/-- ITS FALSE NEIGHBOUR: 'it returns false'. Refute it at one input. -/
def fnWideOneWrong : ChangeSpec := { name := "fnWideOne", vars := ["loop.example/icecores/impl.errNoAges"], fn := fun _ => fun
  | [d1, d2, g1] => { results := [.lit (.bool false)], args := [d1, d2], vars := [g1] }
  | _ => none }
def FnWideOneWrongFalsely : Prop := fnWideOneRow.holds Tryd.pinned (OpenSpec.ofChange fnWideOneWrong)

/-- 'laws.FnTightFirst': WHATEVER THE INPUT: true; the input reads as it did. -/
def fnTightFirstSpec : ChangeSpec := { name := "fnTightFirst", vars := ["loop.example/icecores/impl.errNoAges"], fn := fun _ => fun
  | [d1, d2, g1] => { results := [.lit (.bool true)], args := [d1, d2], vars := [g1] }
  | _ => none }
def fnTightFirstRow : OpenClaim := { program := "ytanfalkpmmkklabdoor", sum := "d1e59c917910056fa46127b521767e95f0c054fb185e84e8ab3d62eeb482e60e", func := "loop.example/icecores/laws.FnTightFirst", spec := "fnTightFirst", inPlace := ["internal/reflectlite.TypeOf"], unfollowed := true, recurses := true, named := ["loop.example/icecores/impl.errNoAges"], ifaces := true, apart := false, laid := [("loop.example/icecores/impl.errNoAges", laid_loop_example_icecores_impl_errNoAges)] }
def FnTightFirstSaid : Prop := fnTightFirstRow.holds Tryd.pinned (OpenSpec.ofChange fnTightFirstSpec)

/-- ITS FALSE NEIGHBOUR: 'it returns false'. Refute it at one input. -/
def fnTightFirstWrong : ChangeSpec := { name := "fnTightFirst", vars := ["loop.example/icecores/impl.errNoAges"], fn := fun _ => fun
  | [d1, d2, g1] => { results := [.lit (.bool false)], args := [d1, d2], vars := [g1] }
  | _ => none }
def FnTightFirstWrongFalsely : Prop := fnTightFirstRow.holds Tryd.pinned (OpenSpec.ofChange fnTightFirstWrong)

/-- 'laws.FnTightSteps': WHATEVER THE INPUT: true; the input reads as it did. -/
def fnTightStepsSpec : ChangeSpec := { name := "fnTightSteps", vars := ["loop.example/icecores/impl.errNoAges"], fn := fun _ => fun
  | [d1, d2, g1] => { results := [.lit (.bool true)], args := [d1, d2], vars := [g1] }
  | _ => none }
def fnTightStepsRow : OpenClaim := { program := "ytanfalkpmmkklabdoor", sum := "d1e59c917910056fa46127b521767e95f0c054fb185e84e8ab3d62eeb482e60e", func := "loop.example/icecores/laws.FnTightSteps", spec := "fnTightSteps", inPlace := ["internal/reflectlite.TypeOf"], unfollowed := true, recurses := true, named := ["loop.example/icecores/impl.errNoAges"], ifaces := true, apart := false, laid := [("loop.example/icecores/impl.errNoAges", laid_loop_example_icecores_impl_errNoAges)] }
def FnTightStepsSaid : Prop := fnTightStepsRow.holds Tryd.pinned (OpenSpec.ofChange fnTightStepsSpec)

/-- ITS FALSE NEIGHBOUR: 'it returns false'. Refute it at one input. -/
def fnTightStepsWrong : ChangeSpec := { name := "fnTightSteps", vars := ["loop.example/icecores/impl.errNoAges"], fn := fun _ => fun
  | [d1, d2, g1] => { results := [.lit (.bool false)], args := [d1, d2], vars := [g1] }
  | _ => none }
def FnTightStepsWrongFalsely : Prop := fnTightStepsRow.holds Tryd.pinned (OpenSpec.ofChange fnTightStepsWrong)

/-- 'laws.FnYoungOld': WHATEVER THE INPUT: true; the input reads as it did. -/
def fnYoungOldSpec : ChangeSpec := { name := "fnYoungOld", vars := ["loop.example/icecores/impl.errNoAges"], fn := fun _ => fun
  | [d, g1] => { results := [.lit (.bool true)], args := [d], vars := [g1] }
  | _ => none }
def fnYoungOldRow : OpenClaim := { program := "ytanfalkpmmkklabdoor", sum := "d1e59c917910056fa46127b521767e95f0c054fb185e84e8ab3d62eeb482e60e", func := "loop.example/icecores/laws.FnYoungOld", spec := "fnYoungOld", inPlace := ["internal/reflectlite.TypeOf"], unfollowed := true, recurses := true, named := ["loop.example/icecores/impl.errNoAges"], ifaces := true, apart := false, laid := [("loop.example/icecores/impl.errNoAges", laid_loop_example_icecores_impl_errNoAges)] }
def FnYoungOldSaid : Prop := fnYoungOldRow.holds Tryd.pinned (OpenSpec.ofChange fnYoungOldSpec)

/-- ITS FALSE NEIGHBOUR: 'it returns false'. Refute it at one input. -/
def fnYoungOldWrong : ChangeSpec := { name := "fnYoungOld", vars := ["loop.example/icecores/impl.errNoAges"], fn := fun _ => fun
  | [d, g1] => { results := [.lit (.bool false)], args := [d], vars := [g1] }
  | _ => none }
def FnYoungOldWrongFalsely : Prop := fnYoungOldRow.holds Tryd.pinned (OpenSpec.ofChange fnYoungOldWrong)

/-- 'laws.FnWindowsOne': WHATEVER THE INPUT: true; the input reads as it did. -/
def fnWindowsOneSpec : ChangeSpec := { name := "fnWindowsOne", vars := ["loop.example/icecores/impl.errNoAges"], fn := fun _ => fun
  | [d1, d2, g1] => { results := [.lit (.bool true)], args := [d1, d2], vars := [g1] }
  | _ => none }
def fnWindowsOneRow : OpenClaim := { program := "ytanfalkpmmkklabdoor", sum := "d1e59c917910056fa46127b521767e95f0c054fb185e84e8ab3d62eeb482e60e", func := "loop.example/icecores/laws.FnWindowsOne", spec := "fnWindowsOne", inPlace := ["internal/reflectlite.TypeOf"], unfollowed := true, recurses := true, named := ["loop.example/icecores/impl.errNoAges"], ifaces := true, apart := false, laid := [("loop.example/icecores/impl.errNoAges", laid_loop_example_icecores_impl_errNoAges)] }
def FnWindowsOneSaid : Prop := fnWindowsOneRow.holds Tryd.pinned (OpenSpec.ofChange fnWindowsOneSpec)

/-- ITS FALSE NEIGHBOUR: 'it returns false'. Refute it at one input. -/
def fnWindowsOneWrong : ChangeSpec := { name := "fnWindowsOne", vars := ["loop.example/icecores/impl.errNoAges"], fn := fun _ => fun
  | [d1, d2, g1] => { results := [.lit (.bool false)], args := [d1, d2], vars := [g1] }
  | _ => none }
def FnWindowsOneWrongFalsely : Prop := fnWindowsOneRow.holds Tryd.pinned (OpenSpec.ofChange fnWindowsOneWrong)

/- THE SECOND FORM. 'bulk': how many values and letters a reading holds, each counted each time it is reached (what is shared counts as often as it is met; a slice's spare places count too). A statement '..UptoSaid' is the law's where the arguments, and the package variables that the reading takes, are together of bulk at most 1048576: NARROWER than '..Said'. Prove '..Said' where nothing that the law and all that it calls make is longer than what came in: it says more and counts as full. Else prove '..UptoSaid'. A law counts once. -/
mutual
def uptoBulk {H : Type} : DataW H → Nat
  | .lit (.string bytes) => bytes.length + 1
  | .lit _ => 1
  | .nil => 1
  | .ptr d => uptoBulk d + 1
  | .slice elems spare => uptoBulkAll elems + uptoBulkAll spare + 1
  | .agg parts => uptoBulkAll parts + 1
  | .iface _ d => uptoBulk d + 1
  | .map entries => uptoBulkEntries entries + 1
  | .held _ => 1
def uptoBulkAll {H : Type} : List (DataW H) → Nat
  | [] => 0
  | d :: r => uptoBulk d + uptoBulkAll r
def uptoBulkEntries {H : Type} : List (Lit × DataW H) → Nat
  | [] => 0
  | x :: r => uptoBulkEntry x + uptoBulkEntries r
def uptoBulkEntry {H : Type} : Lit × DataW H → Nat
  | (.string bytes, d) => bytes.length + uptoBulk d + 1
  | (_, d) => uptoBulk d + 1
 end
def uptoSmall : (H : Type) → List (DataW H) → Bool := fun _ ds => decide (uptoBulkAll ds ≤ 1048576)
def OpenSpec.upto (s : _root_.Go.ChangeSpec) : _root_.Go.OpenSpec := { _root_.Go.OpenSpec.ofChange s with cond := some uptoSmall }

/-- 'laws.FnOld', WHERE WHAT IT READS IS OF BULK AT MOST 1048576: true; the input reads as it did. -/
def fnOldUptoRow : OpenClaim := { program := "ytanfalkpmmkklabdoor", sum := "d1e59c917910056fa46127b521767e95f0c054fb185e84e8ab3d62eeb482e60e", func := "loop.example/icecores/laws.FnOld", spec := "fnOld", inPlace := ["internal/reflectlite.TypeOf"], unfollowed := true, recurses := true, named := ["loop.example/icecores/impl.errNoAges"], ifaces := true, apart := false, laid := [("loop.example/icecores/impl.errNoAges", laid_loop_example_icecores_impl_errNoAges)], narrowed := true }
def FnOldUptoSaid : Prop := fnOldUptoRow.holds Tryd.pinned (OpenSpec.upto fnOldSpec)

/-- 'laws.FnWide', WHERE WHAT IT READS IS OF BULK AT MOST 1048576: true; the input reads as it did. -/
def fnWideUptoRow : OpenClaim := { program := "ytanfalkpmmkklabdoor", sum := "d1e59c917910056fa46127b521767e95f0c054fb185e84e8ab3d62eeb482e60e", func := "loop.example/icecores/laws.FnWide", spec := "fnWide", inPlace := ["internal/reflectlite.TypeOf"], unfollowed := true, recurses := true, named := ["loop.example/icecores/impl.errNoAges"], ifaces := true, apart := false, laid := [("loop.example/icecores/impl.errNoAges", laid_loop_example_icecores_impl_errNoAges)], narrowed := true }
def FnWideUptoSaid : Prop := fnWideUptoRow.holds Tryd.pinned (OpenSpec.upto fnWideSpec)

/-- 'laws.FnWideOne', WHERE WHAT IT READS IS OF BULK AT MOST 1048576: true; the input reads as it did. -/
def fnWideOneUptoRow : OpenClaim := { program := "ytanfalkpmmkklabdoor", sum := "d1e59c917910056fa46127b521767e95f0c054fb185e84e8ab3d62eeb482e60e", func := "loop.example/icecores/laws.FnWideOne", spec := "fnWideOne", inPlace := ["internal/reflectlite.TypeOf"], unfollowed := true, recurses := true, named := ["loop.example/icecores/impl.errNoAges"], ifaces := true, apart := false, laid := [("loop.example/icecores/impl.errNoAges", laid_loop_example_icecores_impl_errNoAges)], narrowed := true }
def FnWideOneUptoSaid : Prop := fnWideOneUptoRow.holds Tryd.pinned (OpenSpec.upto fnWideOneSpec)

/-- 'laws.FnTightFirst', WHERE WHAT IT READS IS OF BULK AT MOST 1048576: true; the input reads as it did. -/
def fnTightFirstUptoRow : OpenClaim := { program := "ytanfalkpmmkklabdoor", sum := "d1e59c917910056fa46127b521767e95f0c054fb185e84e8ab3d62eeb482e60e", func := "loop.example/icecores/laws.FnTightFirst", spec := "fnTightFirst", inPlace := ["internal/reflectlite.TypeOf"], unfollowed := true, recurses := true, named := ["loop.example/icecores/impl.errNoAges"], ifaces := true, apart := false, laid := [("loop.example/icecores/impl.errNoAges", laid_loop_example_icecores_impl_errNoAges)], narrowed := true }
def FnTightFirstUptoSaid : Prop := fnTightFirstUptoRow.holds Tryd.pinned (OpenSpec.upto fnTightFirstSpec)

/-- 'laws.FnTightSteps', WHERE WHAT IT READS IS OF BULK AT MOST 1048576: true; the input reads as it did. -/
def fnTightStepsUptoRow : OpenClaim := { program := "ytanfalkpmmkklabdoor", sum := "d1e59c917910056fa46127b521767e95f0c054fb185e84e8ab3d62eeb482e60e", func := "loop.example/icecores/laws.FnTightSteps", spec := "fnTightSteps", inPlace := ["internal/reflectlite.TypeOf"], unfollowed := true, recurses := true, named := ["loop.example/icecores/impl.errNoAges"], ifaces := true, apart := false, laid := [("loop.example/icecores/impl.errNoAges", laid_loop_example_icecores_impl_errNoAges)], narrowed := true }
def FnTightStepsUptoSaid : Prop := fnTightStepsUptoRow.holds Tryd.pinned (OpenSpec.upto fnTightStepsSpec)

/-- 'laws.FnYoungOld', WHERE WHAT IT READS IS OF BULK AT MOST 1048576: true; the input reads as it did. -/
def fnYoungOldUptoRow : OpenClaim := { program := "ytanfalkpmmkklabdoor", sum := "d1e59c917910056fa46127b521767e95f0c054fb185e84e8ab3d62eeb482e60e", func := "loop.example/icecores/laws.FnYoungOld", spec := "fnYoungOld", inPlace := ["internal/reflectlite.TypeOf"], unfollowed := true, recurses := true, named := ["loop.example/icecores/impl.errNoAges"], ifaces := true, apart := false, laid := [("loop.example/icecores/impl.errNoAges", laid_loop_example_icecores_impl_errNoAges)], narrowed := true }
def FnYoungOldUptoSaid : Prop := fnYoungOldUptoRow.holds Tryd.pinned (OpenSpec.upto fnYoungOldSpec)

/-- 'laws.FnWindowsOne', WHERE WHAT IT READS IS OF BULK AT MOST 1048576: true; the input reads as it did. -/
def fnWindowsOneUptoRow : OpenClaim := { program := "ytanfalkpmmkklabdoor", sum := "d1e59c917910056fa46127b521767e95f0c054fb185e84e8ab3d62eeb482e60e", func := "loop.example/icecores/laws.FnWindowsOne", spec := "fnWindowsOne", inPlace := ["internal/reflectlite.TypeOf"], unfollowed := true, recurses := true, named := ["loop.example/icecores/impl.errNoAges"], ifaces := true, apart := false, laid := [("loop.example/icecores/impl.errNoAges", laid_loop_example_icecores_impl_errNoAges)], narrowed := true }
def FnWindowsOneUptoSaid : Prop := fnWindowsOneUptoRow.holds Tryd.pinned (OpenSpec.upto fnWindowsOneSpec)

end Rows
end Go.Proofs.YtanfalkpmmkklabDoor
