/-
  NARROWER THAN 'FOR EVERY INPUT', by the rows' own cells (each row's printed sentence says how): FnFit: ifaces, laid · FnFitOrder: ifaces, laid · FnTight: ifaces, laid · FnTightAny: ifaces, laid · FnTightNone: ifaces, laid · FnTightWider: ifaces, laid · FnTightShift: ifaces, laid · FnYoung: ifaces, laid.
  DERIVED. THE GIVEN ROWS OF THIS SEAT. 8 by the template 'for every input the law returns true; each argument reads behind the call as it read before'; 0 by the template 'total and deterministic' (their statements: YtanfalkpmmkklaaDoorTotals.lean).
  GIVEN WITH THE SEED: the statements are not yours to turn. If you find one false, say at which input.
  Laid BY PROGRAM, IN A SANDBOX (cutbox-rows.mjs): the forced cells as the released guide's own fill.sh prints them over the translation 2754d5e6d6274146… (all of the seat's roots in one cut). By AI agents, Wed Nov 11 2026. No macro, syntax, notation, axiom, sorry.
-/
import Derived.Test.YtanfalkpmmkklaaDoorChecked
import GoSem.Claim
import GoSem.ClaimJoined
import GoSem.ClaimMapViews
import Derived.JoinedTies
import Derived.KernelRfl
namespace Go.Proofs.YtanfalkpmmkklaaDoor
/- THE CELL 'sum', in the pinned program and in every row, IS THE sha256 OF THE DUMP (.gsa) THAT YtanfalkpmmkklaaDoorProg.lean LOADS. Nothing in Lean hashes anything: it is a label: what it is worth is what the hold of that sum in a sandbox is worth. -/
noncomputable def Tryd.pinned : Pinned := { name := "ytanfalkpmmkklaadoor", sum := "2754d5e6d6274146cda0ee90491ccbe7f5110b9553350ef9f47e94f871ec5ea1", checked := Tryd.checked }
namespace Rows
def none {H : Type} : Left H := { results := [], args := [] }

/- WHAT THE LISTED PACKAGE-LEVEL VARIABLES READ AS WHEN THE CALL BEGINS. Each datum BY PROGRAM (the guide's laid-datum.mjs) off the statement by which the dump's own 'gosem.cut.vars' lays the variable. In a bare row this is a premise. The card (YtanfalkpmmkklaaDoorCards.lean) ties it to the program's text. -/
def laid_loop_example_icecores_impl_errNoAges {H : Type} : DataW H := .iface "*errors.errorString" (.ptr (.agg [.lit (.string [110, 111, 32, 97, 103, 101, 115, 32, 102, 105, 116, 32, 116, 104, 101, 115, 101, 32, 119, 105, 110, 100, 111, 119, 115])]))

/-- 'laws.FnFit': WHATEVER THE INPUT: true; the input reads as it did. -/
def fnFitSpec : ChangeSpec := { name := "fnFit", vars := ["loop.example/icecores/impl.errNoAges"], fn := fun _ => fun
  | [d, g1] => { results := [.lit (.bool true)], args := [d], vars := [g1] }
  | _ => none }
def fnFitRow : OpenClaim := { program := "ytanfalkpmmkklaadoor", sum := "2754d5e6d6274146cda0ee90491ccbe7f5110b9553350ef9f47e94f871ec5ea1", func := "loop.example/icecores/laws.FnFit", spec := "fnFit", inPlace := ["internal/reflectlite.TypeOf"], unfollowed := true, recurses := true, named := ["loop.example/icecores/impl.errNoAges"], ifaces := true, apart := false, laid := [("loop.example/icecores/impl.errNoAges", laid_loop_example_icecores_impl_errNoAges)] }
def FnFitSaid : Prop := fnFitRow.holds Tryd.pinned (OpenSpec.ofChange fnFitSpec)

/-- ITS FALSE NEIGHBOUR: 'it returns false'. Refute it at one input. -/
def fnFitWrong : ChangeSpec := { name := "fnFit", vars := ["loop.example/icecores/impl.errNoAges"], fn := fun _ => fun
  | [d, g1] => { results := [.lit (.bool false)], args := [d], vars := [g1] }
  | _ => none }
def FnFitWrongFalsely : Prop := fnFitRow.holds Tryd.pinned (OpenSpec.ofChange fnFitWrong)

/-- 'laws.FnFitOrder': WHATEVER THE INPUT: true; the input reads as it did. -/
def fnFitOrderSpec : ChangeSpec := { name := "fnFitOrder", vars := ["loop.example/icecores/impl.errNoAges"], fn := fun _ => fun
  | [d, g1] => { results := [.lit (.bool true)], args := [d], vars := [g1] }
  | _ => none }
def fnFitOrderRow : OpenClaim := { program := "ytanfalkpmmkklaadoor", sum := "2754d5e6d6274146cda0ee90491ccbe7f5110b9553350ef9f47e94f871ec5ea1", func := "loop.example/icecores/laws.FnFitOrder", spec := "fnFitOrder", inPlace := ["internal/reflectlite.TypeOf"], unfollowed := true, recurses := true, named := ["loop.example/icecores/impl.errNoAges"], ifaces := true, apart := false, laid := [("loop.example/icecores/impl.errNoAges", laid_loop_example_icecores_impl_errNoAges)] }
def FnFitOrderSaid : Prop := fnFitOrderRow.holds Tryd.pinned (OpenSpec.ofChange fnFitOrderSpec)

/-- ITS FALSE NEIGHBOUR: 'it returns false'. Refute it at one input. -/
def fnFitOrderWrong : ChangeSpec := { name := "fnFitOrder", vars := ["loop.example/icecores/impl.errNoAges"], fn := fun _ => fun
  | [d, g1] => { results := [.lit (.bool false)], args := [d], vars := [g1] }
  | _ => none }
def FnFitOrderWrongFalsely : Prop := fnFitOrderRow.holds Tryd.pinned (OpenSpec.ofChange fnFitOrderWrong)

/-- 'laws.FnTight': WHATEVER THE INPUT: true; the input reads as it did. -/
def fnTightSpec : ChangeSpec := { name := "fnTight", vars := ["loop.example/icecores/impl.errNoAges"], fn := fun _ => fun
  | [d, g1] => { results := [.lit (.bool true)], args := [d], vars := [g1] }
  | _ => none }
def fnTightRow : OpenClaim := { program := "ytanfalkpmmkklaadoor", sum := "2754d5e6d6274146cda0ee90491ccbe7f5110b9553350ef9f47e94f871ec5ea1", func := "loop.example/icecores/laws.FnTight", spec := "fnTight", inPlace := ["internal/reflectlite.TypeOf"], unfollowed := true, recurses := true, named := ["loop.example/icecores/impl.errNoAges"], ifaces := true, apart := false, laid := [("loop.example/icecores/impl.errNoAges", laid_loop_example_icecores_impl_errNoAges)] }
def FnTightSaid : Prop := fnTightRow.holds Tryd.pinned (OpenSpec.ofChange fnTightSpec)

/-- ITS FALSE NEIGHBOUR: 'it returns false'. Refute it at one input. -/
def fnTightWrong : ChangeSpec := { name := "fnTight", vars := ["loop.example/icecores/impl.errNoAges"], fn := fun _ => fun
  | [d, g1] => { results := [.lit (.bool false)], args := [d], vars := [g1] }
  | _ => none }
def FnTightWrongFalsely : Prop := fnTightRow.holds Tryd.pinned (OpenSpec.ofChange fnTightWrong)

/-- 'laws.FnTightAny': WHATEVER THE INPUT: true; the input reads as it did. -/
def fnTightAnySpec : ChangeSpec := { name := "fnTightAny", vars := ["loop.example/icecores/impl.errNoAges"], fn := fun _ => fun
  | [d1, d2, g1] => { results := [.lit (.bool true)], args := [d1, d2], vars := [g1] }
  | _ => none }
def fnTightAnyRow : OpenClaim := { program := "ytanfalkpmmkklaadoor", sum := "2754d5e6d6274146cda0ee90491ccbe7f5110b9553350ef9f47e94f871ec5ea1", func := "loop.example/icecores/laws.FnTightAny", spec := "fnTightAny", inPlace := ["internal/reflectlite.TypeOf"], unfollowed := true, recurses := true, named := ["loop.example/icecores/impl.errNoAges"], ifaces := true, apart := false, laid := [("loop.example/icecores/impl.errNoAges", laid_loop_example_icecores_impl_errNoAges)] }
def FnTightAnySaid : Prop := fnTightAnyRow.holds Tryd.pinned (OpenSpec.ofChange fnTightAnySpec)

/-- ITS FALSE NEIGHBOUR: 'it returns false'. Refute it at one input. -/
def fnTightAnyWrong : ChangeSpec := { name := "fnTightAny", vars := ["loop.example/icecores/impl.errNoAges"], fn := fun _ => fun
  | [d1, d2, g1] => { results := [.lit (.bool false)], args := [d1, d2], vars := [g1] }
  | _ => none }
def FnTightAnyWrongFalsely : Prop := fnTightAnyRow.holds Tryd.pinned (OpenSpec.ofChange fnTightAnyWrong)

/-- 'laws.FnTightNone': WHATEVER THE INPUT: true; the input reads as it did. -/
def fnTightNoneSpec : ChangeSpec := { name := "fnTightNone", vars := ["loop.example/icecores/impl.errNoAges"], fn := fun _ => fun
  | [d1, d2, g1] => { results := [.lit (.bool true)], args := [d1, d2], vars := [g1] }
  | _ => none }
def fnTightNoneRow : OpenClaim := { program := "ytanfalkpmmkklaadoor", sum := "2754d5e6d6274146cda0ee90491ccbe7f5110b9553350ef9f47e94f871ec5ea1", func := "loop.example/icecores/laws.FnTightNone", spec := "fnTightNone", inPlace := ["internal/reflectlite.TypeOf"], unfollowed := true, recurses := true, named := ["loop.example/icecores/impl.errNoAges"], ifaces := true, apart := false, laid := [("loop.example/icecores/impl.errNoAges", laid_loop_example_icecores_impl_errNoAges)] }
def FnTightNoneSaid : Prop := fnTightNoneRow.holds Tryd.pinned (OpenSpec.ofChange fnTightNoneSpec)

/-- ITS FALSE NEIGHBOUR: 'it returns false'. Refute it at one input. -/
def fnTightNoneWrong : ChangeSpec := { name := "fnTightNone", vars := ["loop.example/icecores/impl.errNoAges"], fn := fun _ => fun
  | [d1, d2, g1] => { results := [.lit (.bool false)], args := [d1, d2], vars := [g1] }
  | _ => none }
def FnTightNoneWrongFalsely : Prop := fnTightNoneRow.holds Tryd.pinned (OpenSpec.ofChange fnTightNoneWrong)

/-- 'laws.FnTightWider': WHATEVER THE INPUT: true; the input reads as it did. -/
def fnTightWiderSpec : ChangeSpec := { name := "fnTightWider", vars := ["loop.example/icecores/impl.errNoAges"], fn := fun _ => fun
  | [d1, d2, g1] => { results := [.lit (.bool true)], args := [d1, d2], vars := [g1] }
  | _ => none }
def fnTightWiderRow : OpenClaim := { program := "ytanfalkpmmkklaadoor", sum := "2754d5e6d6274146cda0ee90491ccbe7f5110b9553350ef9f47e94f871ec5ea1", func := "loop.example/icecores/laws.FnTightWider", spec := "fnTightWider", inPlace := ["internal/reflectlite.TypeOf"], unfollowed := true, recurses := true, named := ["loop.example/icecores/impl.errNoAges"], ifaces := true, apart := false, laid := [("loop.example/icecores/impl.errNoAges", laid_loop_example_icecores_impl_errNoAges)] }
def FnTightWiderSaid : Prop := fnTightWiderRow.holds Tryd.pinned (OpenSpec.ofChange fnTightWiderSpec)

/-- ITS FALSE NEIGHBOUR: 'it returns false'. Refute it at one input. -/
def fnTightWiderWrong : ChangeSpec := { name := "fnTightWider", vars := ["loop.example/icecores/impl.errNoAges"], fn := fun _ => fun
  | [d1, d2, g1] => { results := [.lit (.bool false)], args := [d1, d2], vars := [g1] }
  | _ => none }
def FnTightWiderWrongFalsely : Prop := fnTightWiderRow.holds Tryd.pinned (OpenSpec.ofChange fnTightWiderWrong)

/-- 'laws.FnTightShift': WHATEVER THE INPUT: true; the input reads as it did. -/
def fnTightShiftSpec : ChangeSpec := { name := "fnTightShift", vars := ["loop.example/icecores/impl.errNoAges"], fn := fun _ => fun
  | [d, g1] => { results := [.lit (.bool true)], args := [d], vars := [g1] }
  | _ => none }
def fnTightShiftRow : OpenClaim := { program := "ytanfalkpmmkklaadoor", sum := "2754d5e6d6274146cda0ee90491ccbe7f5110b9553350ef9f47e94f871ec5ea1", func := "loop.example/icecores/laws.FnTightShift", spec := "fnTightShift", inPlace := ["internal/reflectlite.TypeOf"], unfollowed := true, recurses := true, named := ["loop.example/icecores/impl.errNoAges"], ifaces := true, apart := false, laid := [("loop.example/icecores/impl.errNoAges", laid_loop_example_icecores_impl_errNoAges)] }
def FnTightShiftSaid : Prop := fnTightShiftRow.holds Tryd.pinned (OpenSpec.ofChange fnTightShiftSpec)

/-- ITS FALSE NEIGHBOUR: 'it returns false'. Refute it at one input. -/
def fnTightShiftWrong : ChangeSpec := { name := "fnTightShift", vars := ["loop.example/icecores/impl.errNoAges"], fn := fun _ => fun
  | [d, g1] => { results := [.lit (.bool false)], args := [d], vars := [g1] }
  | _ => none }
def FnTightShiftWrongFalsely : Prop := fnTightShiftRow.holds Tryd.pinned (OpenSpec.ofChange fnTightShiftWrong)

/-- 'laws.FnYoung': WHATEVER THE INPUT: true; the input reads as it did. -/
def fnYoungSpec : ChangeSpec := { name := "fnYoung", vars := ["loop.example/icecores/impl.errNoAges"], fn := fun _ => fun
  | [d1, d2, g1] => { results := [.lit (.bool true)], args := [d1, d2], vars := [g1] }
  | _ => none }
def fnYoungRow : OpenClaim := { program := "ytanfalkpmmkklaadoor", sum := "2754d5e6d6274146cda0ee90491ccbe7f5110b9553350ef9f47e94f871ec5ea1", func := "loop.example/icecores/laws.FnYoung", spec := "fnYoung", inPlace := ["internal/reflectlite.TypeOf"], unfollowed := true, recurses := true, named := ["loop.example/icecores/impl.errNoAges"], ifaces := true, apart := false, laid := [("loop.example/icecores/impl.errNoAges", laid_loop_example_icecores_impl_errNoAges)] }
def FnYoungSaid : Prop := fnYoungRow.holds Tryd.pinned (OpenSpec.ofChange fnYoungSpec)

/-- ITS FALSE NEIGHBOUR: 'it returns false'. Refute it at one input. -/
def fnYoungWrong : ChangeSpec := { name := "fnYoung", vars := ["loop.example/icecores/impl.errNoAges"], fn := fun _ => fun
  | [d1, d2, g1] => { results := [.lit (.bool false)], args := [d1, d2], vars := [g1] }
  | _ => none }
def FnYoungWrongFalsely : Prop := fnYoungRow.holds Tryd.pinned (OpenSpec.ofChange fnYoungWrong)

/- THE SECOND FORM. 'bulk': how many values and letters a reading holds, each counted each time it is reached (what is shared counts as often as it is met; a slice's spare places count too). A statement '..UptoSaid' is the law's where the arguments, and the package variables that the reading takes, are together of bulk at most 1048576: NARROWER than '..Said'. Prove '..Said' where nothing that the law and all that it calls make is longer than what came in: it says more and counts as full. Else prove '..UptoSaid'. A law counts once. -/
mutual
def uptoBulk {H : Type} : DataW H → Nat
  | .lit (.string bytes) => bytes.length + 1
  | .lit _ => 1
  | .nil => 1
  | .ptr d => uptoBulk d + 1
  | .slice elems spare => uptoBulkAll elems + uptoBulkAll spare + 1
  | .agg parts => uptoBulkAll parts + 1
  | .iface _ d => uptoBulk d + 1
  | .map entries => uptoBulkEntries entries + 1
  | .held _ => 1
def uptoBulkAll {H : Type} : List (DataW H) → Nat
  | [] => 0
  | d :: r => uptoBulk d + uptoBulkAll r
def uptoBulkEntries {H : Type} : List (Lit × DataW H) → Nat
  | [] => 0
  | x :: r => uptoBulkEntry x + uptoBulkEntries r
def uptoBulkEntry {H : Type} : Lit × DataW H → Nat
  | (.string bytes, d) => bytes.length + uptoBulk d + 1
  | (_, d) => uptoBulk d + 1
 end
def uptoSmall : (H : Type) → List (DataW H) → Bool := fun _ ds => decide (uptoBulkAll ds ≤ 1048576)
def OpenSpec.upto (s : _root_.Go.ChangeSpec) : _root_.Go.OpenSpec := { _root_.Go.OpenSpec.ofChange s with cond := some uptoSmall }

/-- 'laws.FnFit', WHERE WHAT IT READS IS OF BULK AT MOST 1048576: true; the input reads as it did. -/
def fnFitUptoRow : OpenClaim := { program := "ytanfalkpmmkklaadoor", sum := "2754d5e6d6274146cda0ee90491ccbe7f5110b9553350ef9f47e94f871ec5ea1", func := "loop.example/icecores/laws.FnFit", spec := "fnFit", inPlace := ["internal/reflectlite.TypeOf"], unfollowed := true, recurses := true, named := ["loop.example/icecores/impl.errNoAges"], ifaces := true, apart := false, laid := [("loop.example/icecores/impl.errNoAges", laid_loop_example_icecores_impl_errNoAges)], narrowed := true }
def FnFitUptoSaid : Prop := fnFitUptoRow.holds Tryd.pinned (OpenSpec.upto fnFitSpec)

/-- 'laws.FnFitOrder', WHERE WHAT IT READS IS OF BULK AT MOST 1048576: true; the input reads as it did. -/
def fnFitOrderUptoRow : OpenClaim := { program := "ytanfalkpmmkklaadoor", sum := "2754d5e6d6274146cda0ee90491ccbe7f5110b9553350ef9f47e94f871ec5ea1", func := "loop.example/icecores/laws.FnFitOrder", spec := "fnFitOrder", inPlace := ["internal/reflectlite.TypeOf"], unfollowed := true, recurses := true, named := ["loop.example/icecores/impl.errNoAges"], ifaces := true, apart := false, laid := [("loop.example/icecores/impl.errNoAges", laid_loop_example_icecores_impl_errNoAges)], narrowed := true }
def FnFitOrderUptoSaid : Prop := fnFitOrderUptoRow.holds Tryd.pinned (OpenSpec.upto fnFitOrderSpec)

/-- 'laws.FnTight', WHERE WHAT IT READS IS OF BULK AT MOST 1048576: true; the input reads as it did. -/
def fnTightUptoRow : OpenClaim := { program := "ytanfalkpmmkklaadoor", sum := "2754d5e6d6274146cda0ee90491ccbe7f5110b9553350ef9f47e94f871ec5ea1", func := "loop.example/icecores/laws.FnTight", spec := "fnTight", inPlace := ["internal/reflectlite.TypeOf"], unfollowed := true, recurses := true, named := ["loop.example/icecores/impl.errNoAges"], ifaces := true, apart := false, laid := [("loop.example/icecores/impl.errNoAges", laid_loop_example_icecores_impl_errNoAges)], narrowed := true }
def FnTightUptoSaid : Prop := fnTightUptoRow.holds Tryd.pinned (OpenSpec.upto fnTightSpec)

/-- 'laws.FnTightAny', WHERE WHAT IT READS IS OF BULK AT MOST 1048576: true; the input reads as it did. -/
def fnTightAnyUptoRow : OpenClaim := { program := "ytanfalkpmmkklaadoor", sum := "2754d5e6d6274146cda0ee90491ccbe7f5110b9553350ef9f47e94f871ec5ea1", func := "loop.example/icecores/laws.FnTightAny", spec := "fnTightAny", inPlace := ["internal/reflectlite.TypeOf"], unfollowed := true, recurses := true, named := ["loop.example/icecores/impl.errNoAges"], ifaces := true, apart := false, laid := [("loop.example/icecores/impl.errNoAges", laid_loop_example_icecores_impl_errNoAges)], narrowed := true }
def FnTightAnyUptoSaid : Prop := fnTightAnyUptoRow.holds Tryd.pinned (OpenSpec.upto fnTightAnySpec)

/-- 'laws.FnTightNone', WHERE WHAT IT READS IS OF BULK AT MOST 1048576: true; the input reads as it did. -/
def fnTightNoneUptoRow : OpenClaim := { program := "ytanfalkpmmkklaadoor", sum := "2754d5e6d6274146cda0ee90491ccbe7f5110b9553350ef9f47e94f871ec5ea1", func := "loop.example/icecores/laws.FnTightNone", spec := "fnTightNone", inPlace := ["internal/reflectlite.TypeOf"], unfollowed := true, recurses := true, named := ["loop.example/icecores/impl.errNoAges"], ifaces := true, apart := false, laid := [("loop.example/icecores/impl.errNoAges", laid_loop_example_icecores_impl_errNoAges)], narrowed := true }
def FnTightNoneUptoSaid : Prop := fnTightNoneUptoRow.holds Tryd.pinned (OpenSpec.upto fnTightNoneSpec)

/-- 'laws.FnTightWider', WHERE WHAT IT READS IS OF BULK AT MOST 1048576: true; the input reads as it did. -/
def fnTightWiderUptoRow : OpenClaim := { program := "ytanfalkpmmkklaadoor", sum := "2754d5e6d6274146cda0ee90491ccbe7f5110b9553350ef9f47e94f871ec5ea1", func := "loop.example/icecores/laws.FnTightWider", spec := "fnTightWider", inPlace := ["internal/reflectlite.TypeOf"], unfollowed := true, recurses := true, named := ["loop.example/icecores/impl.errNoAges"], ifaces := true, apart := false, laid := [("loop.example/icecores/impl.errNoAges", laid_loop_example_icecores_impl_errNoAges)], narrowed := true }
def FnTightWiderUptoSaid : Prop := fnTightWiderUptoRow.holds Tryd.pinned (OpenSpec.upto fnTightWiderSpec)

/-- 'laws.FnTightShift', WHERE WHAT IT READS IS OF BULK AT MOST 1048576: true; the input reads as it did. -/
def fnTightShiftUptoRow : OpenClaim := { program := "ytanfalkpmmkklaadoor", sum := "2754d5e6d6274146cda0ee90491ccbe7f5110b9553350ef9f47e94f871ec5ea1", func := "loop.example/icecores/laws.FnTightShift", spec := "fnTightShift", inPlace := ["internal/reflectlite.TypeOf"], unfollowed := true, recurses := true, named := ["loop.example/icecores/impl.errNoAges"], ifaces := true, apart := false, laid := [("loop.example/icecores/impl.errNoAges", laid_loop_example_icecores_impl_errNoAges)], narrowed := true }
def FnTightShiftUptoSaid : Prop := fnTightShiftUptoRow.holds Tryd.pinned (OpenSpec.upto fnTightShiftSpec)

/-- 'laws.FnYoung', WHERE WHAT IT READS IS OF BULK AT MOST 1048576: true; the input reads as it did. -/
def fnYoungUptoRow : OpenClaim := { program := "ytanfalkpmmkklaadoor", sum := "2754d5e6d6274146cda0ee90491ccbe7f5110b9553350ef9f47e94f871ec5ea1", func := "loop.example/icecores/laws.FnYoung", spec := "fnYoung", inPlace := ["internal/reflectlite.TypeOf"], unfollowed := true, recurses := true, named := ["loop.example/icecores/impl.errNoAges"], ifaces := true, apart := false, laid := [("loop.example/icecores/impl.errNoAges", laid_loop_example_icecores_impl_errNoAges)], narrowed := true }
def FnYoungUptoSaid : Prop := fnYoungUptoRow.holds Tryd.pinned (OpenSpec.upto fnYoungSpec)

end Rows
end Go.Proofs.YtanfalkpmmkklaaDoor
