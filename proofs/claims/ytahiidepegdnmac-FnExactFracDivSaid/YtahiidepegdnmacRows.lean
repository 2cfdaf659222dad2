/-
  No cell of these rows narrows 'for every input' (looked for: loops, veiled, ifaces, maps, wideKeys, modest, calm, conditions, laid).
  DERIVED. THE GIVEN ROWS OF THIS SEAT. 8 by the template 'for every input the law returns true; each argument reads behind the call as it read before'; 0 by the template 'total and deterministic' (their statements: YtahiidepegdnmacTotals.lean).
  GIVEN WITH THE SEED: the statements are not yours to turn. If you find one false, say at which input.
  Laid BY PROGRAM, IN A SANDBOX (cutbox-rows.mjs): the forced cells as the released guide's own fill.sh prints them over the translation 270591efc9ee2c7c… (all of the seat's roots in one cut). By AI agents, Wed Nov 11 2026. No macro, syntax, notation, axiom, sorry.
-/
import Derived.Test.YtahiidepegdnmacChecked
import GoSem.Claim
import GoSem.ClaimJoined
import GoSem.ClaimMapViews
import Derived.JoinedTies
import Derived.KernelRfl
namespace Go.Proofs.Ytahiidepegdnmac
/- THE CELL 'sum', in the pinned program and in every row, IS THE sha256 OF THE DUMP (.gsa) THAT YtahiidepegdnmacProg.lean LOADS. Nothing in Lean hashes anything: it is a label: what it is worth is what the hold of that sum in a sandbox is worth. -/
noncomputable def Try.pinned : Pinned := { name := "ytahiidepegdnmac", sum := "270591efc9ee2c7cfad5dcaf7702479dcddf15a53c70588cf9601ea63521c1df", checked := Try.checked }
namespace Rows
def none {H : Type} : Left H := { results := [], args := [] }

/-- 'laws.FnExactFracValid': WHATEVER THE INPUT: true; the input reads as it did. -/
def fnExactFracValidSpec : ChangeSpec := { name := "fnExactFracValid", fn := fun _ => fun
  | [d] => { results := [.lit (.bool true)], args := [d] }
  | _ => none }
def fnExactFracValidRow : OpenClaim := { program := "ytahiidepegdnmac", sum := "270591efc9ee2c7cfad5dcaf7702479dcddf15a53c70588cf9601ea63521c1df", func := "loop.example/icecores/laws.FnExactFracValid", spec := "fnExactFracValid", apart := false }
def FnExactFracValidSaid : Prop := fnExactFracValidRow.holds Try.pinned (OpenSpec.ofChange fnExactFracValidSpec)

/-- ITS FALSE NEIGHBOUR: 'it returns false'. Refute it at one input. -/
def fnExactFracValidWrong : ChangeSpec := { name := "fnExactFracValid", fn := fun _ => fun
  | [d] => { results := [.lit (.bool false)], args := [d] }
  | _ => none }
def FnExactFracValidWrongFalsely : Prop := fnExactFracValidRow.holds Try.pinned (OpenSpec.ofChange fnExactFracValidWrong)

/-- 'laws.FnExactFracOf': WHATEVER THE INPUT: true; the input reads as it did. -/
def fnExactFracOfSpec : ChangeSpec := { name := "fnExactFracOf", fn := fun _ => fun
  | [d1, d2] => { results := [.lit (.bool true)], args := [d1, d2] }
  | _ => none }
def fnExactFracOfRow : OpenClaim := { program := "ytahiidepegdnmac", sum := "270591efc9ee2c7cfad5dcaf7702479dcddf15a53c70588cf9601ea63521c1df", func := "loop.example/icecores/laws.FnExactFracOf", spec := "fnExactFracOf", apart := false }
def FnExactFracOfSaid : Prop := fnExactFracOfRow.holds Try.pinned (OpenSpec.ofChange fnExactFracOfSpec)

/-- ITS FALSE NEIGHBOUR: 'it returns false'. Refute it at one input. -/
def fnExactFracOfWrong : ChangeSpec := { name := "fnExactFracOf", fn := fun _ => fun
  | [d1, d2] => { results := [.lit (.bool false)], args := [d1, d2] }
  | _ => none }
def FnExactFracOfWrongFalsely : Prop := fnExactFracOfRow.holds Try.pinned (OpenSpec.ofChange fnExactFracOfWrong)

/-- 'laws.FnExactFracAdd': WHATEVER THE INPUT: true; the input reads as it did. -/
def fnExactFracAddSpec : ChangeSpec := { name := "fnExactFracAdd", fn := fun _ => fun
  | [d1, d2] => { results := [.lit (.bool true)], args := [d1, d2] }
  | _ => none }
def fnExactFracAddRow : OpenClaim := { program := "ytahiidepegdnmac", sum := "270591efc9ee2c7cfad5dcaf7702479dcddf15a53c70588cf9601ea63521c1df", func := "loop.example/icecores/laws.FnExactFracAdd", spec := "fnExactFracAdd", unfollowed := true, recurses := true, apart := false }
def FnExactFracAddSaid : Prop := fnExactFracAddRow.holds Try.pinned (OpenSpec.ofChange fnExactFracAddSpec)

/-- ITS FALSE NEIGHBOUR: 'it returns false'. Refute it at one input. -/
def fnExactFracAddWrong : ChangeSpec := { name := "fnExactFracAdd", fn := fun _ => fun
  | [d1, d2] => { results := [.lit (.bool false)], args := [d1, d2] }
  | _ => none }
def FnExactFracAddWrongFalsely : Prop := fnExactFracAddRow.holds Try.pinned (OpenSpec.ofChange fnExactFracAddWrong)

/-- 'laws.FnExactFracSub': WHATEVER THE INPUT: true; the input reads as it did. -/
def fnExactFracSubSpec : ChangeSpec := { name := "fnExactFracSub", fn := fun _ => fun
  | [d1, d2] => { results := [.lit (.bool true)], args := [d1, d2] }
  | _ => none }
def fnExactFracSubRow : OpenClaim := { program := "ytahiidepegdnmac", sum := "270591efc9ee2c7cfad5dcaf7702479dcddf15a53c70588cf9601ea63521c1df", func := "loop.example/icecores/laws.FnExactFracSub", spec := "fnExactFracSub", unfollowed := true, recurses := true, apart := false }
def FnExactFracSubSaid : Prop := fnExactFracSubRow.holds Try.pinned (OpenSpec.ofChange fnExactFracSubSpec)

/-- ITS FALSE NEIGHBOUR: 'it returns false'. Refute it at one input. -/
def fnExactFracSubWrong : ChangeSpec := { name := "fnExactFracSub", fn := fun _ => fun
  | [d1, d2] => { results := [.lit (.bool false)], args := [d1, d2] }
  | _ => none }
def FnExactFracSubWrongFalsely : Prop := fnExactFracSubRow.holds Try.pinned (OpenSpec.ofChange fnExactFracSubWrong)

/-- 'laws.FnExactFracMul': WHATEVER THE INPUT: true; the input reads as it did. -/
def fnExactFracMulSpec : ChangeSpec := { name := "fnExactFracMul", fn := fun _ => fun
  | [d1, d2] => { results := [.lit (.bool true)], args := [d1, d2] }
  | _ => none }
def fnExactFracMulRow : OpenClaim := { program := "ytahiidepegdnmac", sum := "270591efc9ee2c7cfad5dcaf7702479dcddf15a53c70588cf9601ea63521c1df", func := "loop.example/icecores/laws.FnExactFracMul", spec := "fnExactFracMul", unfollowed := true, recurses := true, apart := false }
def FnExactFracMulSaid : Prop := fnExactFracMulRow.holds Try.pinned (OpenSpec.ofChange fnExactFracMulSpec)

/-- ITS FALSE NEIGHBOUR: 'it returns false'. Refute it at one input. -/
def fnExactFracMulWrong : ChangeSpec := { name := "fnExactFracMul", fn := fun _ => fun
  | [d1, d2] => { results := [.lit (.bool false)], args := [d1, d2] }
  | _ => none }
def FnExactFracMulWrongFalsely : Prop := fnExactFracMulRow.holds Try.pinned (OpenSpec.ofChange fnExactFracMulWrong)

/-- 'laws.FnExactFracDiv': WHATEVER THE INPUT: true; the input reads as it did. -/
def fnExactFracDivSpec : ChangeSpec := { name := "fnExactFracDiv", fn := fun _ => fun
  | [d1, d2] => { results := [.lit (.bool true)], args := [d1, d2] }
  | _ => none }
def fnExactFracDivRow : OpenClaim := { program := "ytahiidepegdnmac", sum := "270591efc9ee2c7cfad5dcaf7702479dcddf15a53c70588cf9601ea63521c1df", func := "loop.example/icecores/laws.FnExactFracDiv", spec := "fnExactFracDiv", unfollowed := true, recurses := true, apart := false }
def FnExactFracDivSaid : Prop := fnExactFracDivRow.holds Try.pinned (OpenSpec.ofChange fnExactFracDivSpec)

/-- ITS FALSE NEIGHBOUR: 'it returns false'. Refute it at one input. -/
def fnExactFracDivWrong : ChangeSpec := { name := "fnExactFracDiv", fn := fun _ => fun
  | [d1, d2] => { results := [.lit (.bool false)], args := [d1, d2] }
  | _ => none }
def FnExactFracDivWrongFalsely : Prop := fnExactFracDivRow.holds Try.pinned (OpenSpec.ofChange fnExactFracDivWrong)

/-- 'laws.FnExactFracLess': WHATEVER THE INPUT: true; the input reads as it did. -/
def fnExactFracLessSpec : ChangeSpec := { name := "fnExactFracLess", fn := fun _ => fun
  | [d1, d2] => { results := [.lit (.bool true)], args := [d1, d2] }
  | _ => none }
def fnExactFracLessRow : OpenClaim := { program := "ytahiidepegdnmac", sum := "270591efc9ee2c7cfad5dcaf7702479dcddf15a53c70588cf9601ea63521c1df", func := "loop.example/icecores/laws.FnExactFracLess", spec := "fnExactFracLess", unfollowed := true, recurses := true, apart := false }
def FnExactFracLessSaid : Prop := fnExactFracLessRow.holds Try.pinned (OpenSpec.ofChange fnExactFracLessSpec)

/-- ITS FALSE NEIGHBOUR: 'it returns false'. Refute it at one input. -/
def fnExactFracLessWrong : ChangeSpec := { name := "fnExactFracLess", fn := fun _ => fun
  | [d1, d2] => { results := [.lit (.bool false)], args := [d1, d2] }
  | _ => none }
def FnExactFracLessWrongFalsely : Prop := fnExactFracLessRow.holds Try.pinned (OpenSpec.ofChange fnExactFracLessWrong)

/-- 'laws.FnExactFracFloor': WHATEVER THE INPUT: true; the input reads as it did. -/
def fnExactFracFloorSpec : ChangeSpec := { name := "fnExactFracFloor", fn := fun _ => fun
  | [d] => { results := [.lit (.bool true)], args := [d] }
  | _ => none }
def fnExactFracFloorRow : OpenClaim := { program := "ytahiidepegdnmac", sum := "270591efc9ee2c7cfad5dcaf7702479dcddf15a53c70588cf9601ea63521c1df", func := "loop.example/icecores/laws.FnExactFracFloor", spec := "fnExactFracFloor", apart := false }
def FnExactFracFloorSaid : Prop := fnExactFracFloorRow.holds Try.pinned (OpenSpec.ofChange fnExactFracFloorSpec)

/-- ITS FALSE NEIGHBOUR: 'it returns false'. Refute it at one input. -/
def fnExactFracFloorWrong : ChangeSpec := { name := "fnExactFracFloor", fn := fun _ => fun
  | [d] => { results := [.lit (.bool false)], args := [d] }
  | _ => none }
def FnExactFracFloorWrongFalsely : Prop := fnExactFracFloorRow.holds Try.pinned (OpenSpec.ofChange fnExactFracFloorWrong)

/- THE SECOND FORM. 'bulk': how many values and letters a reading holds, each counted each time it is reached (what is shared counts as often as it is met; a slice's spare places count too). A statement '..UptoSaid' is the law's where the arguments, and the package variables that the reading takes, are together of bulk at most 1048576: NARROWER than '..Said'. Prove '..Said' where nothing that the law and all that it calls make is longer than what came in: it says more and counts as full. Else prove '..UptoSaid'. A law counts once. -/
mutual
def uptoBulk {H : Type} : DataW H → Nat
  | .lit (.string bytes) => bytes.length + 1
  | .lit _ => 1
  | .nil => 1
  | .ptr d => uptoBulk d + 1
  | .slice elems spare => uptoBulkAll elems + uptoBulkAll spare + 1
  | .agg parts => uptoBulkAll parts + 1
  | .iface _ d => uptoBulk d + 1
  | .map entries => uptoBulkEntries entries + 1
  | .held _ => 1
def uptoBulkAll {H : Type} : List (DataW H) → Nat
  | [] => 0
  | d :: r => uptoBulk d + uptoBulkAll r
def uptoBulkEntries {H : Type} : List (Lit × DataW H) → Nat
  | [] => 0
  | x :: r => uptoBulkEntry x + uptoBulkEntries r
def uptoBulkEntry {H : Type} : Lit × DataW H → Nat
  | (.string bytes, d) => bytes.length + uptoBulk d + 1
  | (_, d) => uptoBulk d + 1
 end
def uptoSmall : (H : Type) → List (DataW H) → Bool := fun _ ds => decide (uptoBulkAll ds ≤ 1048576)
def OpenSpec.upto (s : _root_.Go.ChangeSpec) : _root_.Go.OpenSpec := { _root_.Go.OpenSpec.ofChange s with cond := some uptoSmall }

/-- 'laws.FnExactFracValid', WHERE WHAT IT READS IS OF BULK AT MOST 1048576: true; the input reads as it did. -/
def fnExactFracValidUptoRow : OpenClaim := { program := "ytahiidepegdnmac", sum := "270591efc9ee2c7cfad5dcaf7702479dcddf15a53c70588cf9601ea63521c1df", func := "loop.example/icecores/laws.FnExactFracValid", spec := "fnExactFracValid", apart := false, narrowed := true }
def FnExactFracValidUptoSaid : Prop := fnExactFracValidUptoRow.holds Try.pinned (OpenSpec.upto fnExactFracValidSpec)

/-- 'laws.FnExactFracOf', WHERE WHAT IT READS IS OF BULK AT MOST 1048576: true; the input reads as it did. -/
def fnExactFracOfUptoRow : OpenClaim := { program := "ytahiidepegdnmac", sum := "270591efc9ee2c7cfad5dcaf7702479dcddf15a53c70588cf9601ea63521c1df", func := "loop.example/icecores/laws.FnExactFracOf", spec := "fnExactFracOf", apart := false, narrowed := true }
def FnExactFracOfUptoSaid : Prop := fnExactFracOfUptoRow.holds Try.pinned (OpenSpec.upto fnExactFracOfSpec)

/-- 'laws.FnExactFracAdd', WHERE WHAT IT READS IS OF BULK AT MOST 1048576: true; the input reads as it did. -/
def fnExactFracAddUptoRow : OpenClaim := { program := "ytahiidepegdnmac", sum := "270591efc9ee2c7cfad5dcaf7702479dcddf15a53c70588cf9601ea63521c1df", func := "loop.example/icecores/laws.FnExactFracAdd", spec := "fnExactFracAdd", unfollowed := true, recurses := true, apart := false, narrowed := true }
def FnExactFracAddUptoSaid : Prop := fnExactFracAddUptoRow.holds Try.pinned (OpenSpec.upto fnExactFracAddSpec)

/-- 'laws.FnExactFracSub', WHERE WHAT IT READS IS OF BULK AT MOST 1048576: true; the input reads as it did. -/
def fnExactFracSubUptoRow : OpenClaim := { program := "ytahiidepegdnmac", sum := "270591efc9ee2c7cfad5dcaf7702479dcddf15a53c70588cf9601ea63521c1df", func := "loop.example/icecores/laws.FnExactFracSub", spec := "fnExactFracSub", unfollowed := true, recurses := true, apart := false, narrowed := true }
def FnExactFracSubUptoSaid : Prop := fnExactFracSubUptoRow.holds Try.pinned (OpenSpec.upto fnExactFracSubSpec)

/-- 'laws.FnExactFracMul', WHERE WHAT IT READS IS OF BULK AT MOST 1048576: true; the input reads as it did. -/
def fnExactFracMulUptoRow : OpenClaim := { program := "ytahiidepegdnmac", sum := "270591efc9ee2c7cfad5dcaf7702479dcddf15a53c70588cf9601ea63521c1df", func := "loop.example/icecores/laws.FnExactFracMul", spec := "fnExactFracMul", unfollowed := true, recurses := true, apart := false, narrowed := true }
def FnExactFracMulUptoSaid : Prop := fnExactFracMulUptoRow.holds Try.pinned (OpenSpec.upto fnExactFracMulSpec)

/-- 'laws.FnExactFracDiv', WHERE WHAT IT READS IS OF BULK AT MOST 1048576: true; the input reads as it did. -/
def fnExactFracDivUptoRow : OpenClaim := { program := "ytahiidepegdnmac", sum := "270591efc9ee2c7cfad5dcaf7702479dcddf15a53c70588cf9601ea63521c1df", func := "loop.example/icecores/laws.FnExactFracDiv", spec := "fnExactFracDiv", unfollowed := true, recurses := true, apart := false, narrowed := true }
def FnExactFracDivUptoSaid : Prop := fnExactFracDivUptoRow.holds Try.pinned (OpenSpec.upto fnExactFracDivSpec)

/-- 'laws.FnExactFracLess', WHERE WHAT IT READS IS OF BULK AT MOST 1048576: true; the input reads as it did. -/
def fnExactFracLessUptoRow : OpenClaim := { program := "ytahiidepegdnmac", sum := "270591efc9ee2c7cfad5dcaf7702479dcddf15a53c70588cf9601ea63521c1df", func := "loop.example/icecores/laws.FnExactFracLess", spec := "fnExactFracLess", unfollowed := true, recurses := true, apart := false, narrowed := true }
def FnExactFracLessUptoSaid : Prop := fnExactFracLessUptoRow.holds Try.pinned (OpenSpec.upto fnExactFracLessSpec)

/-- 'laws.FnExactFracFloor', WHERE WHAT IT READS IS OF BULK AT MOST 1048576: true; the input reads as it did. -/
def fnExactFracFloorUptoRow : OpenClaim := { program := "ytahiidepegdnmac", sum := "270591efc9ee2c7cfad5dcaf7702479dcddf15a53c70588cf9601ea63521c1df", func := "loop.example/icecores/laws.FnExactFracFloor", spec := "fnExactFracFloor", apart := false, narrowed := true }
def FnExactFracFloorUptoSaid : Prop := fnExactFracFloorUptoRow.holds Try.pinned (OpenSpec.upto fnExactFracFloorSpec)

end Rows
end Go.Proofs.Ytahiidepegdnmac
