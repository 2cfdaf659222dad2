/-
  No cell of these rows narrows 'for every input' (looked for: loops, veiled, ifaces, maps, wideKeys, modest, calm, conditions, laid).
  DERIVED. THE GIVEN ROWS OF THIS SEAT. 8 by the template 'for every input the law returns true; each argument reads behind the call as it read before'; 0 by the template 'total and deterministic' (their statements: YtahiidepegdnmabTotals.lean).
  GIVEN WITH THE SEED: the statements are not yours to turn. If you find one false, say at which input.
  Laid BY PROGRAM, IN A SANDBOX (cutbox-rows.mjs): the forced cells as the released guide's own fill.sh prints them over the translation d492bb313e85e2dd… (all of the seat's roots in one cut). By AI agents, Wed Nov 11 2026. No macro, syntax, notation, axiom, sorry.
-/
import Derived.Test.YtahiidepegdnmabChecked
import GoSem.Claim
import GoSem.ClaimJoined
import GoSem.ClaimMapViews
import Derived.JoinedTies
import Derived.KernelRfl
namespace Go.Proofs.Ytahiidepegdnmab
/- THE CELL 'sum', in the pinned program and in every row, IS THE sha256 OF THE DUMP (.gsa) THAT YtahiidepegdnmabProg.lean LOADS. Nothing in Lean hashes anything: it is a label: what it is worth is what the hold of that sum in a sandbox is worth. -/
noncomputable def Try.pinned : Pinned := { name := "ytahiidepegdnmab", sum := "d492bb313e85e2dd742fa9455175f3d04afb5de56566fbd91db3743efb76e194", checked := Try.checked }
namespace Rows
def none {H : Type} : Left H := { results := [], args := [] }

/-- 'laws.FnFracLess': WHATEVER THE INPUT: true; the input reads as it did. -/
def fnFracLessSpec : ChangeSpec := { name := "fnFracLess", fn := fun _ => fun
  | [d] => { results := [.lit (.bool true)], args := [d] }
  | _ => none }
def fnFracLessRow : OpenClaim := { program := "ytahiidepegdnmab", sum := "d492bb313e85e2dd742fa9455175f3d04afb5de56566fbd91db3743efb76e194", func := "loop.example/icecores/laws.FnFracLess", spec := "fnFracLess", unfollowed := true, recurses := true, apart := false }
def FnFracLessSaid : Prop := fnFracLessRow.holds Try.pinned (OpenSpec.ofChange fnFracLessSpec)

/-- ITS FALSE NEIGHBOUR: 'it returns false'. Refute it at one input. -/
def fnFracLessWrong : ChangeSpec := { name := "fnFracLess", fn := fun _ => fun
  | [d] => { results := [.lit (.bool false)], args := [d] }
  | _ => none }
def FnFracLessWrongFalsely : Prop := fnFracLessRow.holds Try.pinned (OpenSpec.ofChange fnFracLessWrong)

/-- 'laws.FnFracFloor': WHATEVER THE INPUT: true; the input reads as it did. -/
def fnFracFloorSpec : ChangeSpec := { name := "fnFracFloor", fn := fun _ => fun
  | [d] => { results := [.lit (.bool true)], args := [d] }
  | _ => none }
def fnFracFloorRow : OpenClaim := { program := "ytahiidepegdnmab", sum := "d492bb313e85e2dd742fa9455175f3d04afb5de56566fbd91db3743efb76e194", func := "loop.example/icecores/laws.FnFracFloor", spec := "fnFracFloor", apart := false }
def FnFracFloorSaid : Prop := fnFracFloorRow.holds Try.pinned (OpenSpec.ofChange fnFracFloorSpec)

/-- ITS FALSE NEIGHBOUR: 'it returns false'. Refute it at one input. -/
def fnFracFloorWrong : ChangeSpec := { name := "fnFracFloor", fn := fun _ => fun
  | [d] => { results := [.lit (.bool false)], args := [d] }
  | _ => none }
def FnFracFloorWrongFalsely : Prop := fnFracFloorRow.holds Try.pinned (OpenSpec.ofChange fnFracFloorWrong)

/-- 'laws.FnFracMulThree': WHATEVER THE INPUT: true; the input reads as it did. -/
def fnFracMulThreeSpec : ChangeSpec := { name := "fnFracMulThree", fn := fun _ => fun
  | [d] => { results := [.lit (.bool true)], args := [d] }
  | _ => none }
def fnFracMulThreeRow : OpenClaim := { program := "ytahiidepegdnmab", sum := "d492bb313e85e2dd742fa9455175f3d04afb5de56566fbd91db3743efb76e194", func := "loop.example/icecores/laws.FnFracMulThree", spec := "fnFracMulThree", unfollowed := true, recurses := true, apart := false }
def FnFracMulThreeSaid : Prop := fnFracMulThreeRow.holds Try.pinned (OpenSpec.ofChange fnFracMulThreeSpec)

/-- ITS FALSE NEIGHBOUR: 'it returns false'. Refute it at one input. -/
def fnFracMulThreeWrong : ChangeSpec := { name := "fnFracMulThree", fn := fun _ => fun
  | [d] => { results := [.lit (.bool false)], args := [d] }
  | _ => none }
def FnFracMulThreeWrongFalsely : Prop := fnFracMulThreeRow.holds Try.pinned (OpenSpec.ofChange fnFracMulThreeWrong)

/-- 'laws.FnFracAddNone': WHATEVER THE INPUT: true; the input reads as it did. -/
def fnFracAddNoneSpec : ChangeSpec := { name := "fnFracAddNone", fn := fun _ => fun
  | [d] => { results := [.lit (.bool true)], args := [d] }
  | _ => none }
def fnFracAddNoneRow : OpenClaim := { program := "ytahiidepegdnmab", sum := "d492bb313e85e2dd742fa9455175f3d04afb5de56566fbd91db3743efb76e194", func := "loop.example/icecores/laws.FnFracAddNone", spec := "fnFracAddNone", unfollowed := true, recurses := true, apart := false }
def FnFracAddNoneSaid : Prop := fnFracAddNoneRow.holds Try.pinned (OpenSpec.ofChange fnFracAddNoneSpec)

/-- ITS FALSE NEIGHBOUR: 'it returns false'. Refute it at one input. -/
def fnFracAddNoneWrong : ChangeSpec := { name := "fnFracAddNone", fn := fun _ => fun
  | [d] => { results := [.lit (.bool false)], args := [d] }
  | _ => none }
def FnFracAddNoneWrongFalsely : Prop := fnFracAddNoneRow.holds Try.pinned (OpenSpec.ofChange fnFracAddNoneWrong)

/-- 'laws.FnFracLessAdd': WHATEVER THE INPUT: true; the input reads as it did. -/
def fnFracLessAddSpec : ChangeSpec := { name := "fnFracLessAdd", fn := fun _ => fun
  | [d] => { results := [.lit (.bool true)], args := [d] }
  | _ => none }
def fnFracLessAddRow : OpenClaim := { program := "ytahiidepegdnmab", sum := "d492bb313e85e2dd742fa9455175f3d04afb5de56566fbd91db3743efb76e194", func := "loop.example/icecores/laws.FnFracLessAdd", spec := "fnFracLessAdd", unfollowed := true, recurses := true, apart := false }
def FnFracLessAddSaid : Prop := fnFracLessAddRow.holds Try.pinned (OpenSpec.ofChange fnFracLessAddSpec)

/-- ITS FALSE NEIGHBOUR: 'it returns false'. Refute it at one input. -/
def fnFracLessAddWrong : ChangeSpec := { name := "fnFracLessAdd", fn := fun _ => fun
  | [d] => { results := [.lit (.bool false)], args := [d] }
  | _ => none }
def FnFracLessAddWrongFalsely : Prop := fnFracLessAddRow.holds Try.pinned (OpenSpec.ofChange fnFracLessAddWrong)

/-- 'laws.FnFracFloorAdd': WHATEVER THE INPUT: true; the input reads as it did. -/
def fnFracFloorAddSpec : ChangeSpec := { name := "fnFracFloorAdd", fn := fun _ => fun
  | [d1, d2] => { results := [.lit (.bool true)], args := [d1, d2] }
  | _ => none }
def fnFracFloorAddRow : OpenClaim := { program := "ytahiidepegdnmab", sum := "d492bb313e85e2dd742fa9455175f3d04afb5de56566fbd91db3743efb76e194", func := "loop.example/icecores/laws.FnFracFloorAdd", spec := "fnFracFloorAdd", unfollowed := true, recurses := true, apart := false }
def FnFracFloorAddSaid : Prop := fnFracFloorAddRow.holds Try.pinned (OpenSpec.ofChange fnFracFloorAddSpec)

/-- ITS FALSE NEIGHBOUR: 'it returns false'. Refute it at one input. -/
def fnFracFloorAddWrong : ChangeSpec := { name := "fnFracFloorAdd", fn := fun _ => fun
  | [d1, d2] => { results := [.lit (.bool false)], args := [d1, d2] }
  | _ => none }
def FnFracFloorAddWrongFalsely : Prop := fnFracFloorAddRow.holds Try.pinned (OpenSpec.ofChange fnFracFloorAddWrong)

/-- 'laws.FnFracDivMul': WHATEVER THE INPUT: true; the input reads as it did. -/
def fnFracDivMulSpec : ChangeSpec := { name := "fnFracDivMul", fn := fun _ => fun
  | [d] => { results := [.lit (.bool true)], args := [d] }
  | _ => none }
def fnFracDivMulRow : OpenClaim := { program := "ytahiidepegdnmab", sum := "d492bb313e85e2dd742fa9455175f3d04afb5de56566fbd91db3743efb76e194", func := "loop.example/icecores/laws.FnFracDivMul", spec := "fnFracDivMul", unfollowed := true, recurses := true, apart := false }
def FnFracDivMulSaid : Prop := fnFracDivMulRow.holds Try.pinned (OpenSpec.ofChange fnFracDivMulSpec)

/-- ITS FALSE NEIGHBOUR: 'it returns false'. Refute it at one input. -/
def fnFracDivMulWrong : ChangeSpec := { name := "fnFracDivMul", fn := fun _ => fun
  | [d] => { results := [.lit (.bool false)], args := [d] }
  | _ => none }
def FnFracDivMulWrongFalsely : Prop := fnFracDivMulRow.holds Try.pinned (OpenSpec.ofChange fnFracDivMulWrong)

/-- 'laws.FnFracSubSelf': WHATEVER THE INPUT: true; the input reads as it did. -/
def fnFracSubSelfSpec : ChangeSpec := { name := "fnFracSubSelf", fn := fun _ => fun
  | [d] => { results := [.lit (.bool true)], args := [d] }
  | _ => none }
def fnFracSubSelfRow : OpenClaim := { program := "ytahiidepegdnmab", sum := "d492bb313e85e2dd742fa9455175f3d04afb5de56566fbd91db3743efb76e194", func := "loop.example/icecores/laws.FnFracSubSelf", spec := "fnFracSubSelf", unfollowed := true, recurses := true, apart := false }
def FnFracSubSelfSaid : Prop := fnFracSubSelfRow.holds Try.pinned (OpenSpec.ofChange fnFracSubSelfSpec)

/-- ITS FALSE NEIGHBOUR: 'it returns false'. Refute it at one input. -/
def fnFracSubSelfWrong : ChangeSpec := { name := "fnFracSubSelf", fn := fun _ => fun
  | [d] => { results := [.lit (.bool false)], args := [d] }
  | _ => none }
def FnFracSubSelfWrongFalsely : Prop := fnFracSubSelfRow.holds Try.pinned (OpenSpec.ofChange fnFracSubSelfWrong)

/- THE SECOND FORM. 'bulk': how many values and letters a reading holds, each counted each time it is reached (what is shared counts as often as it is met; a slice's spare places count too). A statement '..UptoSaid' is the law's where the arguments, and the package variables that the reading takes, are together of bulk at most 1048576: NARROWER than '..Said'. Prove '..Said' where nothing that the law and all that it calls make is longer than what came in: it says more and counts as full. Else prove '..UptoSaid'. A law counts once. -/
mutual
def uptoBulk {H : Type} : DataW H → Nat
  | .lit (.string bytes) => bytes.length + 1
  | .lit _ => 1
  | .nil => 1
  | .ptr d => uptoBulk d + 1
  | .slice elems spare => uptoBulkAll elems + uptoBulkAll spare + 1
  | .agg parts => uptoBulkAll parts + 1
  | .iface _ d => uptoBulk d + 1
  | .map entries => uptoBulkEntries entries + 1
  | .held _ => 1
def uptoBulkAll {H : Type} : List (DataW H) → Nat
  | [] => 0
  | d :: r => uptoBulk d + uptoBulkAll r
def uptoBulkEntries {H : Type} : List (Lit × DataW H) → Nat
  | [] => 0
  | x :: r => uptoBulkEntry x + uptoBulkEntries r
def uptoBulkEntry {H : Type} : Lit × DataW H → Nat
  | (.string bytes, d) => bytes.length + uptoBulk d + 1
  | (_, d) => uptoBulk d + 1
 end
def uptoSmall : (H : Type) → List (DataW H) → Bool := fun _ ds => decide (uptoBulkAll ds ≤ 1048576)
def OpenSpec.upto (s : _root_.Go.ChangeSpec) : _root_.Go.OpenSpec := { _root_.Go.OpenSpec.ofChange s with cond := some uptoSmall }

/-- 'laws.FnFracLess', WHERE WHAT IT READS IS OF BULK AT MOST 1048576: true; the input reads as it did. -/
def fnFracLessUptoRow : OpenClaim := { program := "ytahiidepegdnmab", sum := "d492bb313e85e2dd742fa9455175f3d04afb5de56566fbd91db3743efb76e194", func := "loop.example/icecores/laws.FnFracLess", spec := "fnFracLess", unfollowed := true, recurses := true, apart := false, narrowed := true }
def FnFracLessUptoSaid : Prop := fnFracLessUptoRow.holds Try.pinned (OpenSpec.upto fnFracLessSpec)

/-- 'laws.FnFracFloor', WHERE WHAT IT READS IS OF BULK AT MOST 1048576: true; the input reads as it did. -/
def fnFracFloorUptoRow : OpenClaim := { program := "ytahiidepegdnmab", sum := "d492bb313e85e2dd742fa9455175f3d04afb5de56566fbd91db3743efb76e194", func := "loop.example/icecores/laws.FnFracFloor", spec := "fnFracFloor", apart := false, narrowed := true }
def FnFracFloorUptoSaid : Prop := fnFracFloorUptoRow.holds Try.pinned (OpenSpec.upto fnFracFloorSpec)

/-- 'laws.FnFracMulThree', WHERE WHAT IT READS IS OF BULK AT MOST 1048576: true; the input reads as it did. -/
def fnFracMulThreeUptoRow : OpenClaim := { program := "ytahiidepegdnmab", sum := "d492bb313e85e2dd742fa9455175f3d04afb5de56566fbd91db3743efb76e194", func := "loop.example/icecores/laws.FnFracMulThree", spec := "fnFracMulThree", unfollowed := true, recurses := true, apart := false, narrowed := true }
def FnFracMulThreeUptoSaid : Prop := fnFracMulThreeUptoRow.holds Try.pinned (OpenSpec.upto fnFracMulThreeSpec)

/-- 'laws.FnFracAddNone', WHERE WHAT IT READS IS OF BULK AT MOST 1048576: true; the input reads as it did. -/
def fnFracAddNoneUptoRow : OpenClaim := { program := "ytahiidepegdnmab", sum := "d492bb313e85e2dd742fa9455175f3d04afb5de56566fbd91db3743efb76e194", func := "loop.example/icecores/laws.FnFracAddNone", spec := "fnFracAddNone", unfollowed := true, recurses := true, apart := false, narrowed := true }
def FnFracAddNoneUptoSaid : Prop := fnFracAddNoneUptoRow.holds Try.pinned (OpenSpec.upto fnFracAddNoneSpec)

/-- 'laws.FnFracLessAdd', WHERE WHAT IT READS IS OF BULK AT MOST 1048576: true; the input reads as it did. -/
def fnFracLessAddUptoRow : OpenClaim := { program := "ytahiidepegdnmab", sum := "d492bb313e85e2dd742fa9455175f3d04afb5de56566fbd91db3743efb76e194", func := "loop.example/icecores/laws.FnFracLessAdd", spec := "fnFracLessAdd", unfollowed := true, recurses := true, apart := false, narrowed := true }
def FnFracLessAddUptoSaid : Prop := fnFracLessAddUptoRow.holds Try.pinned (OpenSpec.upto fnFracLessAddSpec)

/-- 'laws.FnFracFloorAdd', WHERE WHAT IT READS IS OF BULK AT MOST 1048576: true; the input reads as it did. -/
def fnFracFloorAddUptoRow : OpenClaim := { program := "ytahiidepegdnmab", sum := "d492bb313e85e2dd742fa9455175f3d04afb5de56566fbd91db3743efb76e194", func := "loop.example/icecores/laws.FnFracFloorAdd", spec := "fnFracFloorAdd", unfollowed := true, recurses := true, apart := false, narrowed := true }
def FnFracFloorAddUptoSaid : Prop := fnFracFloorAddUptoRow.holds Try.pinned (OpenSpec.upto fnFracFloorAddSpec)

/-- 'laws.FnFracDivMul', WHERE WHAT IT READS IS OF BULK AT MOST 1048576: true; the input reads as it did. -/
def fnFracDivMulUptoRow : OpenClaim := { program := "ytahiidepegdnmab", sum := "d492bb313e85e2dd742fa9455175f3d04afb5de56566fbd91db3743efb76e194", func := "loop.example/icecores/laws.FnFracDivMul", spec := "fnFracDivMul", unfollowed := true, recurses := true, apart := false, narrowed := true }
def FnFracDivMulUptoSaid : Prop := fnFracDivMulUptoRow.holds Try.pinned (OpenSpec.upto fnFracDivMulSpec)

/-- 'laws.FnFracSubSelf', WHERE WHAT IT READS IS OF BULK AT MOST 1048576: true; the input reads as it did. -/
def fnFracSubSelfUptoRow : OpenClaim := { program := "ytahiidepegdnmab", sum := "d492bb313e85e2dd742fa9455175f3d04afb5de56566fbd91db3743efb76e194", func := "loop.example/icecores/laws.FnFracSubSelf", spec := "fnFracSubSelf", unfollowed := true, recurses := true, apart := false, narrowed := true }
def FnFracSubSelfUptoSaid : Prop := fnFracSubSelfUptoRow.holds Try.pinned (OpenSpec.upto fnFracSubSelfSpec)

end Rows
end Go.Proofs.Ytahiidepegdnmab
