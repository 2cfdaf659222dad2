/-
  No cell of these rows narrows 'for every input' (looked for: loops, veiled, ifaces, maps, wideKeys, modest, calm, conditions, laid).
  DERIVED. THE GIVEN ROWS OF THIS SEAT. 9 by the template 'for every input the law returns true; each argument reads behind the call as it read before'; 0 by the template 'total and deterministic' (their statements: YtahiidepegdnmaaTotals.lean).
  GIVEN WITH THE SEED: the statements are not yours to turn. If you find one false, say at which input.
  Laid BY PROGRAM, IN A SANDBOX (cutbox-rows.mjs): the forced cells as the released guide's own fill.sh prints them over the translation fb2425ac5f2c868a… (all of the seat's roots in one cut). By AI agents, Wed Nov 11 2026. No macro, syntax, notation, axiom, sorry.
-/
import Derived.Test.YtahiidepegdnmaaChecked
import GoSem.Claim
import GoSem.ClaimJoined
import GoSem.ClaimMapViews
import Derived.JoinedTies
import Derived.KernelRfl
namespace Go.Proofs.Ytahiidepegdnmaa
/- THE CELL 'sum', in the pinned program and in every row, IS THE sha256 OF THE DUMP (.gsa) THAT YtahiidepegdnmaaProg.lean LOADS. Nothing in Lean hashes anything: it is a label: what it is worth is what the hold of that sum in a sandbox is worth. -/
noncomputable def Try.pinned : Pinned := { name := "ytahiidepegdnmaa", sum := "fb2425ac5f2c868a387d33692d4a8ed8efbb32462c29fb320b65ad5ab99780ed", checked := Try.checked }
namespace Rows
def none {H : Type} : Left H := { results := [], args := [] }

/-- 'laws.FnFracOf': WHATEVER THE INPUT: true; the input reads as it did. -/
def fnFracOfSpec : ChangeSpec := { name := "fnFracOf", fn := fun _ => fun
  | [d] => { results := [.lit (.bool true)], args := [d] }
  | _ => none }
def fnFracOfRow : OpenClaim := { program := "ytahiidepegdnmaa", sum := "fb2425ac5f2c868a387d33692d4a8ed8efbb32462c29fb320b65ad5ab99780ed", func := "loop.example/icecores/laws.FnFracOf", spec := "fnFracOf", apart := false }
def FnFracOfSaid : Prop := fnFracOfRow.holds Try.pinned (OpenSpec.ofChange fnFracOfSpec)

/-- ITS FALSE NEIGHBOUR: 'it returns false'. Refute it at one input. -/
def fnFracOfWrong : ChangeSpec := { name := "fnFracOf", fn := fun _ => fun
  | [d] => { results := [.lit (.bool false)], args := [d] }
  | _ => none }
def FnFracOfWrongFalsely : Prop := fnFracOfRow.holds Try.pinned (OpenSpec.ofChange fnFracOfWrong)

/-- 'laws.FnFracOfTwice': WHATEVER THE INPUT: true; the input reads as it did. -/
def fnFracOfTwiceSpec : ChangeSpec := { name := "fnFracOfTwice", fn := fun _ => fun
  | [d1, d2] => { results := [.lit (.bool true)], args := [d1, d2] }
  | _ => none }
def fnFracOfTwiceRow : OpenClaim := { program := "ytahiidepegdnmaa", sum := "fb2425ac5f2c868a387d33692d4a8ed8efbb32462c29fb320b65ad5ab99780ed", func := "loop.example/icecores/laws.FnFracOfTwice", spec := "fnFracOfTwice", apart := false }
def FnFracOfTwiceSaid : Prop := fnFracOfTwiceRow.holds Try.pinned (OpenSpec.ofChange fnFracOfTwiceSpec)

/-- ITS FALSE NEIGHBOUR: 'it returns false'. Refute it at one input. -/
def fnFracOfTwiceWrong : ChangeSpec := { name := "fnFracOfTwice", fn := fun _ => fun
  | [d1, d2] => { results := [.lit (.bool false)], args := [d1, d2] }
  | _ => none }
def FnFracOfTwiceWrongFalsely : Prop := fnFracOfTwiceRow.holds Try.pinned (OpenSpec.ofChange fnFracOfTwiceWrong)

/-- 'laws.FnFracValid': WHATEVER THE INPUT: true; the input reads as it did. -/
def fnFracValidSpec : ChangeSpec := { name := "fnFracValid", fn := fun _ => fun
  | [d] => { results := [.lit (.bool true)], args := [d] }
  | _ => none }
def fnFracValidRow : OpenClaim := { program := "ytahiidepegdnmaa", sum := "fb2425ac5f2c868a387d33692d4a8ed8efbb32462c29fb320b65ad5ab99780ed", func := "loop.example/icecores/laws.FnFracValid", spec := "fnFracValid", apart := false }
def FnFracValidSaid : Prop := fnFracValidRow.holds Try.pinned (OpenSpec.ofChange fnFracValidSpec)

/-- ITS FALSE NEIGHBOUR: 'it returns false'. Refute it at one input. -/
def fnFracValidWrong : ChangeSpec := { name := "fnFracValid", fn := fun _ => fun
  | [d] => { results := [.lit (.bool false)], args := [d] }
  | _ => none }
def FnFracValidWrongFalsely : Prop := fnFracValidRow.holds Try.pinned (OpenSpec.ofChange fnFracValidWrong)

/-- 'laws.FnFracAdd': WHATEVER THE INPUT: true; the input reads as it did. -/
def fnFracAddSpec : ChangeSpec := { name := "fnFracAdd", fn := fun _ => fun
  | [d] => { results := [.lit (.bool true)], args := [d] }
  | _ => none }
def fnFracAddRow : OpenClaim := { program := "ytahiidepegdnmaa", sum := "fb2425ac5f2c868a387d33692d4a8ed8efbb32462c29fb320b65ad5ab99780ed", func := "loop.example/icecores/laws.FnFracAdd", spec := "fnFracAdd", unfollowed := true, recurses := true, apart := false }
def FnFracAddSaid : Prop := fnFracAddRow.holds Try.pinned (OpenSpec.ofChange fnFracAddSpec)

/-- ITS FALSE NEIGHBOUR: 'it returns false'. Refute it at one input. -/
def fnFracAddWrong : ChangeSpec := { name := "fnFracAdd", fn := fun _ => fun
  | [d] => { results := [.lit (.bool false)], args := [d] }
  | _ => none }
def FnFracAddWrongFalsely : Prop := fnFracAddRow.holds Try.pinned (OpenSpec.ofChange fnFracAddWrong)

/-- 'laws.FnFracAddThree': WHATEVER THE INPUT: true; the input reads as it did. -/
def fnFracAddThreeSpec : ChangeSpec := { name := "fnFracAddThree", fn := fun _ => fun
  | [d] => { results := [.lit (.bool true)], args := [d] }
  | _ => none }
def fnFracAddThreeRow : OpenClaim := { program := "ytahiidepegdnmaa", sum := "fb2425ac5f2c868a387d33692d4a8ed8efbb32462c29fb320b65ad5ab99780ed", func := "loop.example/icecores/laws.FnFracAddThree", spec := "fnFracAddThree", unfollowed := true, recurses := true, apart := false }
def FnFracAddThreeSaid : Prop := fnFracAddThreeRow.holds Try.pinned (OpenSpec.ofChange fnFracAddThreeSpec)

/-- ITS FALSE NEIGHBOUR: 'it returns false'. Refute it at one input. -/
def fnFracAddThreeWrong : ChangeSpec := { name := "fnFracAddThree", fn := fun _ => fun
  | [d] => { results := [.lit (.bool false)], args := [d] }
  | _ => none }
def FnFracAddThreeWrongFalsely : Prop := fnFracAddThreeRow.holds Try.pinned (OpenSpec.ofChange fnFracAddThreeWrong)

/-- 'laws.FnFracSub': WHATEVER THE INPUT: true; the input reads as it did. -/
def fnFracSubSpec : ChangeSpec := { name := "fnFracSub", fn := fun _ => fun
  | [d] => { results := [.lit (.bool true)], args := [d] }
  | _ => none }
def fnFracSubRow : OpenClaim := { program := "ytahiidepegdnmaa", sum := "fb2425ac5f2c868a387d33692d4a8ed8efbb32462c29fb320b65ad5ab99780ed", func := "loop.example/icecores/laws.FnFracSub", spec := "fnFracSub", unfollowed := true, recurses := true, apart := false }
def FnFracSubSaid : Prop := fnFracSubRow.holds Try.pinned (OpenSpec.ofChange fnFracSubSpec)

/-- ITS FALSE NEIGHBOUR: 'it returns false'. Refute it at one input. -/
def fnFracSubWrong : ChangeSpec := { name := "fnFracSub", fn := fun _ => fun
  | [d] => { results := [.lit (.bool false)], args := [d] }
  | _ => none }
def FnFracSubWrongFalsely : Prop := fnFracSubRow.holds Try.pinned (OpenSpec.ofChange fnFracSubWrong)

/-- 'laws.FnFracMul': WHATEVER THE INPUT: true; the input reads as it did. -/
def fnFracMulSpec : ChangeSpec := { name := "fnFracMul", fn := fun _ => fun
  | [d] => { results := [.lit (.bool true)], args := [d] }
  | _ => none }
def fnFracMulRow : OpenClaim := { program := "ytahiidepegdnmaa", sum := "fb2425ac5f2c868a387d33692d4a8ed8efbb32462c29fb320b65ad5ab99780ed", func := "loop.example/icecores/laws.FnFracMul", spec := "fnFracMul", unfollowed := true, recurses := true, apart := false }
def FnFracMulSaid : Prop := fnFracMulRow.holds Try.pinned (OpenSpec.ofChange fnFracMulSpec)

/-- ITS FALSE NEIGHBOUR: 'it returns false'. Refute it at one input. -/
def fnFracMulWrong : ChangeSpec := { name := "fnFracMul", fn := fun _ => fun
  | [d] => { results := [.lit (.bool false)], args := [d] }
  | _ => none }
def FnFracMulWrongFalsely : Prop := fnFracMulRow.holds Try.pinned (OpenSpec.ofChange fnFracMulWrong)

/-- 'laws.FnFracMulOver': WHATEVER THE INPUT: true; the input reads as it did. -/
def fnFracMulOverSpec : ChangeSpec := { name := "fnFracMulOver", fn := fun _ => fun
  | [d] => { results := [.lit (.bool true)], args := [d] }
  | _ => none }
def fnFracMulOverRow : OpenClaim := { program := "ytahiidepegdnmaa", sum := "fb2425ac5f2c868a387d33692d4a8ed8efbb32462c29fb320b65ad5ab99780ed", func := "loop.example/icecores/laws.FnFracMulOver", spec := "fnFracMulOver", unfollowed := true, recurses := true, apart := false }
def FnFracMulOverSaid : Prop := fnFracMulOverRow.holds Try.pinned (OpenSpec.ofChange fnFracMulOverSpec)

/-- ITS FALSE NEIGHBOUR: 'it returns false'. Refute it at one input. -/
def fnFracMulOverWrong : ChangeSpec := { name := "fnFracMulOver", fn := fun _ => fun
  | [d] => { results := [.lit (.bool false)], args := [d] }
  | _ => none }
def FnFracMulOverWrongFalsely : Prop := fnFracMulOverRow.holds Try.pinned (OpenSpec.ofChange fnFracMulOverWrong)

/-- 'laws.FnFracDiv': WHATEVER THE INPUT: true; the input reads as it did. -/
def fnFracDivSpec : ChangeSpec := { name := "fnFracDiv", fn := fun _ => fun
  | [d] => { results := [.lit (.bool true)], args := [d] }
  | _ => none }
def fnFracDivRow : OpenClaim := { program := "ytahiidepegdnmaa", sum := "fb2425ac5f2c868a387d33692d4a8ed8efbb32462c29fb320b65ad5ab99780ed", func := "loop.example/icecores/laws.FnFracDiv", spec := "fnFracDiv", unfollowed := true, recurses := true, apart := false }
def FnFracDivSaid : Prop := fnFracDivRow.holds Try.pinned (OpenSpec.ofChange fnFracDivSpec)

/-- ITS FALSE NEIGHBOUR: 'it returns false'. Refute it at one input. -/
def fnFracDivWrong : ChangeSpec := { name := "fnFracDiv", fn := fun _ => fun
  | [d] => { results := [.lit (.bool false)], args := [d] }
  | _ => none }
def FnFracDivWrongFalsely : Prop := fnFracDivRow.holds Try.pinned (OpenSpec.ofChange fnFracDivWrong)

/- THE SECOND FORM. 'bulk': how many values and letters a reading holds, each counted each time it is reached (what is shared counts as often as it is met; a slice's spare places count too). A statement '..UptoSaid' is the law's where the arguments, and the package variables that the reading takes, are together of bulk at most 1048576: NARROWER than '..Said'. Prove '..Said' where nothing that the law and all that it calls make is longer than what came in: it says more and counts as full. Else prove '..UptoSaid'. A law counts once. -/
mutual
def uptoBulk {H : Type} : DataW H → Nat
  | .lit (.string bytes) => bytes.length + 1
  | .lit _ => 1
  | .nil => 1
  | .ptr d => uptoBulk d + 1
  | .slice elems spare => uptoBulkAll elems + uptoBulkAll spare + 1
  | .agg parts => uptoBulkAll parts + 1
  | .iface _ d => uptoBulk d + 1
  | .map entries => uptoBulkEntries entries + 1
  | .held _ => 1
def uptoBulkAll {H : Type} : List (DataW H) → Nat
  | [] => 0
  | d :: r => uptoBulk d + uptoBulkAll r
def uptoBulkEntries {H : Type} : List (Lit × DataW H) → Nat
  | [] => 0
  | x :: r => uptoBulkEntry x + uptoBulkEntries r
def uptoBulkEntry {H : Type} : Lit × DataW H → Nat
  | (.string bytes, d) => bytes.length + uptoBulk d + 1
  | (_, d) => uptoBulk d + 1
 end
def uptoSmall : (H : Type) → List (DataW H) → Bool := fun _ ds => decide (uptoBulkAll ds ≤ 1048576)
def OpenSpec.upto (s : _root_.Go.ChangeSpec) : _root_.Go.OpenSpec := { _root_.Go.OpenSpec.ofChange s with cond := some uptoSmall }

/-- 'laws.FnFracOf', WHERE WHAT IT READS IS OF BULK AT MOST 1048576: true; the input reads as it did. -/
def fnFracOfUptoRow : OpenClaim := { program := "ytahiidepegdnmaa", sum := "fb2425ac5f2c868a387d33692d4a8ed8efbb32462c29fb320b65ad5ab99780ed", func := "loop.example/icecores/laws.FnFracOf", spec := "fnFracOf", apart := false, narrowed := true }
def FnFracOfUptoSaid : Prop := fnFracOfUptoRow.holds Try.pinned (OpenSpec.upto fnFracOfSpec)

/-- 'laws.FnFracOfTwice', WHERE WHAT IT READS IS OF BULK AT MOST 1048576: true; the input reads as it did. -/
def fnFracOfTwiceUptoRow : OpenClaim := { program := "ytahiidepegdnmaa", sum := "fb2425ac5f2c868a387d33692d4a8ed8efbb32462c29fb320b65ad5ab99780ed", func := "loop.example/icecores/laws.FnFracOfTwice", spec := "fnFracOfTwice", apart := false, narrowed := true }
def FnFracOfTwiceUptoSaid : Prop := fnFracOfTwiceUptoRow.holds Try.pinned (OpenSpec.upto fnFracOfTwiceSpec)

/-- 'laws.FnFracValid', WHERE WHAT IT READS IS OF BULK AT MOST 1048576: true; the input reads as it did. -/
def fnFracValidUptoRow : OpenClaim := { program := "ytahiidepegdnmaa", sum := "fb2425ac5f2c868a387d33692d4a8ed8efbb32462c29fb320b65ad5ab99780ed", func := "loop.example/icecores/laws.FnFracValid", spec := "fnFracValid", apart := false, narrowed := true }
def FnFracValidUptoSaid : Prop := fnFracValidUptoRow.holds Try.pinned (OpenSpec.upto fnFracValidSpec)

/-- 'laws.FnFracAdd', WHERE WHAT IT READS IS OF BULK AT MOST 1048576: true; the input reads as it did. -/
def fnFracAddUptoRow : OpenClaim := { program := "ytahiidepegdnmaa", sum := "fb2425ac5f2c868a387d33692d4a8ed8efbb32462c29fb320b65ad5ab99780ed", func := "loop.example/icecores/laws.FnFracAdd", spec := "fnFracAdd", unfollowed := true, recurses := true, apart := false, narrowed := true }
def FnFracAddUptoSaid : Prop := fnFracAddUptoRow.holds Try.pinned (OpenSpec.upto fnFracAddSpec)

/-- 'laws.FnFracAddThree', WHERE WHAT IT READS IS OF BULK AT MOST 1048576: true; the input reads as it did. -/
def fnFracAddThreeUptoRow : OpenClaim := { program := "ytahiidepegdnmaa", sum := "fb2425ac5f2c868a387d33692d4a8ed8efbb32462c29fb320b65ad5ab99780ed", func := "loop.example/icecores/laws.FnFracAddThree", spec := "fnFracAddThree", unfollowed := true, recurses := true, apart := false, narrowed := true }
def FnFracAddThreeUptoSaid : Prop := fnFracAddThreeUptoRow.holds Try.pinned (OpenSpec.upto fnFracAddThreeSpec)

/-- 'laws.FnFracSub', WHERE WHAT IT READS IS OF BULK AT MOST 1048576: true; the input reads as it did. -/
def fnFracSubUptoRow : OpenClaim := { program := "ytahiidepegdnmaa", sum := "fb2425ac5f2c868a387d33692d4a8ed8efbb32462c29fb320b65ad5ab99780ed", func := "loop.example/icecores/laws.FnFracSub", spec := "fnFracSub", unfollowed := true, recurses := true, apart := false, narrowed := true }
def FnFracSubUptoSaid : Prop := fnFracSubUptoRow.holds Try.pinned (OpenSpec.upto fnFracSubSpec)

/-- 'laws.FnFracMul', WHERE WHAT IT READS IS OF BULK AT MOST 1048576: true; the input reads as it did. -/
def fnFracMulUptoRow : OpenClaim := { program := "ytahiidepegdnmaa", sum := "fb2425ac5f2c868a387d33692d4a8ed8efbb32462c29fb320b65ad5ab99780ed", func := "loop.example/icecores/laws.FnFracMul", spec := "fnFracMul", unfollowed := true, recurses := true, apart := false, narrowed := true }
def FnFracMulUptoSaid : Prop := fnFracMulUptoRow.holds Try.pinned (OpenSpec.upto fnFracMulSpec)

/-- 'laws.FnFracMulOver', WHERE WHAT IT READS IS OF BULK AT MOST 1048576: true; the input reads as it did. -/
def fnFracMulOverUptoRow : OpenClaim := { program := "ytahiidepegdnmaa", sum := "fb2425ac5f2c868a387d33692d4a8ed8efbb32462c29fb320b65ad5ab99780ed", func := "loop.example/icecores/laws.FnFracMulOver", spec := "fnFracMulOver", unfollowed := true, recurses := true, apart := false, narrowed := true }
def FnFracMulOverUptoSaid : Prop := fnFracMulOverUptoRow.holds Try.pinned (OpenSpec.upto fnFracMulOverSpec)

/-- 'laws.FnFracDiv', WHERE WHAT IT READS IS OF BULK AT MOST 1048576: true; the input reads as it did. -/
def fnFracDivUptoRow : OpenClaim := { program := "ytahiidepegdnmaa", sum := "fb2425ac5f2c868a387d33692d4a8ed8efbb32462c29fb320b65ad5ab99780ed", func := "loop.example/icecores/laws.FnFracDiv", spec := "fnFracDiv", unfollowed := true, recurses := true, apart := false, narrowed := true }
def FnFracDivUptoSaid : Prop := fnFracDivUptoRow.holds Try.pinned (OpenSpec.upto fnFracDivSpec)

end Rows
end Go.Proofs.Ytahiidepegdnmaa
