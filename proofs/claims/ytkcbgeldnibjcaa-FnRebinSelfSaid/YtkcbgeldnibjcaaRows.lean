/-
  No cell of these rows narrows 'for every input' (looked for: loops, veiled, ifaces, maps, wideKeys, modest, calm, conditions, laid).
  DERIVED. THE GIVEN ROWS OF THIS SEAT. 9 by the template 'for every input the law returns true; each argument reads behind the call as it read before'; 0 by the template 'total and deterministic' (their statements: YtkcbgeldnibjcaaTotals.lean).
  GIVEN WITH THE SEED: the statements are not yours to turn. If you find one false, say at which input.
  Laid BY PROGRAM, IN A SANDBOX (cutbox-rows.mjs): the forced cells as the released guide's own fill.sh prints them over the translation 1d965d2033d0a1e9… (all of the seat's roots in one cut). By AI agents, Wed Nov 11 2026. No macro, syntax, notation, axiom, sorry.
-/
import Derived.Test.YtkcbgeldnibjcaaChecked
import GoSem.Claim
import GoSem.ClaimJoined
import GoSem.ClaimMapViews
import Derived.JoinedTies
import Derived.KernelRfl
namespace Go.Proofs.Ytkcbgeldnibjcaa
/- THE CELL 'sum', in the pinned program and in every row, IS THE sha256 OF THE DUMP (.gsa) THAT YtkcbgeldnibjcaaProg.lean LOADS. Nothing in Lean hashes anything: it is a label: what it is worth is what the hold of that sum in a sandbox is worth. -/
noncomputable def Try.pinned : Pinned := { name := "ytkcbgeldnibjcaa", sum := "1d965d2033d0a1e93229b082d3c8394c2ca37dc2964796c6aee559f5f56b2e3d", checked := Try.checked }
namespace Rows
def none {H : Type} : Left H := { results := [], args := [] }

/-- 'laws.FnRecord': WHATEVER THE INPUT: true; the input reads as it did. -/
def fnRecordSpec : ChangeSpec := { name := "fnRecord", fn := fun _ => fun
  | [d1, d2] => { results := [.lit (.bool true)], args := [d1, d2] }
  | _ => none }
def fnRecordRow : OpenClaim := { program := "ytkcbgeldnibjcaa", sum := "1d965d2033d0a1e93229b082d3c8394c2ca37dc2964796c6aee559f5f56b2e3d", func := "loop.example/icecores/laws.FnRecord", spec := "fnRecord", apart := false }
def FnRecordSaid : Prop := fnRecordRow.holds Try.pinned (OpenSpec.ofChange fnRecordSpec)

/-- ITS FALSE NEIGHBOUR: 'it returns false'. Refute it at one input. -/
def fnRecordWrong : ChangeSpec := { name := "fnRecord", fn := fun _ => fun
  | [d1, d2] => { results := [.lit (.bool false)], args := [d1, d2] }
  | _ => none }
def FnRecordWrongFalsely : Prop := fnRecordRow.holds Try.pinned (OpenSpec.ofChange fnRecordWrong)

/-- 'laws.FnRecordTotal': WHATEVER THE INPUT: true; the input reads as it did. -/
def fnRecordTotalSpec : ChangeSpec := { name := "fnRecordTotal", fn := fun _ => fun
  | [d] => { results := [.lit (.bool true)], args := [d] }
  | _ => none }
def fnRecordTotalRow : OpenClaim := { program := "ytkcbgeldnibjcaa", sum := "1d965d2033d0a1e93229b082d3c8394c2ca37dc2964796c6aee559f5f56b2e3d", func := "loop.example/icecores/laws.FnRecordTotal", spec := "fnRecordTotal", unfollowed := true, recurses := true, apart := false }
def FnRecordTotalSaid : Prop := fnRecordTotalRow.holds Try.pinned (OpenSpec.ofChange fnRecordTotalSpec)

/-- ITS FALSE NEIGHBOUR: 'it returns false'. Refute it at one input. -/
def fnRecordTotalWrong : ChangeSpec := { name := "fnRecordTotal", fn := fun _ => fun
  | [d] => { results := [.lit (.bool false)], args := [d] }
  | _ => none }
def FnRecordTotalWrongFalsely : Prop := fnRecordTotalRow.holds Try.pinned (OpenSpec.ofChange fnRecordTotalWrong)

/-- 'laws.FnBetween': WHATEVER THE INPUT: true; the input reads as it did. -/
def fnBetweenSpec : ChangeSpec := { name := "fnBetween", fn := fun _ => fun
  | [d1, d2] => { results := [.lit (.bool true)], args := [d1, d2] }
  | _ => none }
def fnBetweenRow : OpenClaim := { program := "ytkcbgeldnibjcaa", sum := "1d965d2033d0a1e93229b082d3c8394c2ca37dc2964796c6aee559f5f56b2e3d", func := "loop.example/icecores/laws.FnBetween", spec := "fnBetween", unfollowed := true, recurses := true, apart := false }
def FnBetweenSaid : Prop := fnBetweenRow.holds Try.pinned (OpenSpec.ofChange fnBetweenSpec)

/-- ITS FALSE NEIGHBOUR: 'it returns false'. Refute it at one input. -/
def fnBetweenWrong : ChangeSpec := { name := "fnBetween", fn := fun _ => fun
  | [d1, d2] => { results := [.lit (.bool false)], args := [d1, d2] }
  | _ => none }
def FnBetweenWrongFalsely : Prop := fnBetweenRow.holds Try.pinned (OpenSpec.ofChange fnBetweenWrong)

/-- 'laws.FnBetweenBin': WHATEVER THE INPUT: true; the input reads as it did. -/
def fnBetweenBinSpec : ChangeSpec := { name := "fnBetweenBin", fn := fun _ => fun
  | [d1, d2] => { results := [.lit (.bool true)], args := [d1, d2] }
  | _ => none }
def fnBetweenBinRow : OpenClaim := { program := "ytkcbgeldnibjcaa", sum := "1d965d2033d0a1e93229b082d3c8394c2ca37dc2964796c6aee559f5f56b2e3d", func := "loop.example/icecores/laws.FnBetweenBin", spec := "fnBetweenBin", unfollowed := true, recurses := true, apart := false }
def FnBetweenBinSaid : Prop := fnBetweenBinRow.holds Try.pinned (OpenSpec.ofChange fnBetweenBinSpec)

/-- ITS FALSE NEIGHBOUR: 'it returns false'. Refute it at one input. -/
def fnBetweenBinWrong : ChangeSpec := { name := "fnBetweenBin", fn := fun _ => fun
  | [d1, d2] => { results := [.lit (.bool false)], args := [d1, d2] }
  | _ => none }
def FnBetweenBinWrongFalsely : Prop := fnBetweenBinRow.holds Try.pinned (OpenSpec.ofChange fnBetweenBinWrong)

/-- 'laws.FnBetweenTwice': WHATEVER THE INPUT: true; the input reads as it did. -/
def fnBetweenTwiceSpec : ChangeSpec := { name := "fnBetweenTwice", fn := fun _ => fun
  | [d] => { results := [.lit (.bool true)], args := [d] }
  | _ => none }
def fnBetweenTwiceRow : OpenClaim := { program := "ytkcbgeldnibjcaa", sum := "1d965d2033d0a1e93229b082d3c8394c2ca37dc2964796c6aee559f5f56b2e3d", func := "loop.example/icecores/laws.FnBetweenTwice", spec := "fnBetweenTwice", unfollowed := true, recurses := true, apart := false }
def FnBetweenTwiceSaid : Prop := fnBetweenTwiceRow.holds Try.pinned (OpenSpec.ofChange fnBetweenTwiceSpec)

/-- ITS FALSE NEIGHBOUR: 'it returns false'. Refute it at one input. -/
def fnBetweenTwiceWrong : ChangeSpec := { name := "fnBetweenTwice", fn := fun _ => fun
  | [d] => { results := [.lit (.bool false)], args := [d] }
  | _ => none }
def FnBetweenTwiceWrongFalsely : Prop := fnBetweenTwiceRow.holds Try.pinned (OpenSpec.ofChange fnBetweenTwiceWrong)

/-- 'laws.FnRebin': WHATEVER THE INPUT: true; the input reads as it did. -/
def fnRebinSpec : ChangeSpec := { name := "fnRebin", fn := fun _ => fun
  | [d] => { results := [.lit (.bool true)], args := [d] }
  | _ => none }
def fnRebinRow : OpenClaim := { program := "ytkcbgeldnibjcaa", sum := "1d965d2033d0a1e93229b082d3c8394c2ca37dc2964796c6aee559f5f56b2e3d", func := "loop.example/icecores/laws.FnRebin", spec := "fnRebin", unfollowed := true, recurses := true, apart := false }
def FnRebinSaid : Prop := fnRebinRow.holds Try.pinned (OpenSpec.ofChange fnRebinSpec)

/-- ITS FALSE NEIGHBOUR: 'it returns false'. Refute it at one input. -/
def fnRebinWrong : ChangeSpec := { name := "fnRebin", fn := fun _ => fun
  | [d] => { results := [.lit (.bool false)], args := [d] }
  | _ => none }
def FnRebinWrongFalsely : Prop := fnRebinRow.holds Try.pinned (OpenSpec.ofChange fnRebinWrong)

/-- 'laws.FnRebinSelf': WHATEVER THE INPUT: true; the input reads as it did. -/
def fnRebinSelfSpec : ChangeSpec := { name := "fnRebinSelf", fn := fun _ => fun
  | [d] => { results := [.lit (.bool true)], args := [d] }
  | _ => none }
def fnRebinSelfRow : OpenClaim := { program := "ytkcbgeldnibjcaa", sum := "1d965d2033d0a1e93229b082d3c8394c2ca37dc2964796c6aee559f5f56b2e3d", func := "loop.example/icecores/laws.FnRebinSelf", spec := "fnRebinSelf", unfollowed := true, recurses := true, apart := false }
def FnRebinSelfSaid : Prop := fnRebinSelfRow.holds Try.pinned (OpenSpec.ofChange fnRebinSelfSpec)

/-- ITS FALSE NEIGHBOUR: 'it returns false'. Refute it at one input. -/
def fnRebinSelfWrong : ChangeSpec := { name := "fnRebinSelf", fn := fun _ => fun
  | [d] => { results := [.lit (.bool false)], args := [d] }
  | _ => none }
def FnRebinSelfWrongFalsely : Prop := fnRebinSelfRow.holds Try.pinned (OpenSpec.ofChange fnRebinSelfWrong)

/-- 'laws.FnMerge': WHATEVER THE INPUT: true; the input reads as it did. -/
def fnMergeSpec : ChangeSpec := { name := "fnMerge", fn := fun _ => fun
  | [d1, d2] => { results := [.lit (.bool true)], args := [d1, d2] }
  | _ => none }
def fnMergeRow : OpenClaim := { program := "ytkcbgeldnibjcaa", sum := "1d965d2033d0a1e93229b082d3c8394c2ca37dc2964796c6aee559f5f56b2e3d", func := "loop.example/icecores/laws.FnMerge", spec := "fnMerge", unfollowed := true, recurses := true, apart := false }
def FnMergeSaid : Prop := fnMergeRow.holds Try.pinned (OpenSpec.ofChange fnMergeSpec)

/-- ITS FALSE NEIGHBOUR: 'it returns false'. Refute it at one input. -/
def fnMergeWrong : ChangeSpec := { name := "fnMerge", fn := fun _ => fun
  | [d1, d2] => { results := [.lit (.bool false)], args := [d1, d2] }
  | _ => none }
def FnMergeWrongFalsely : Prop := fnMergeRow.holds Try.pinned (OpenSpec.ofChange fnMergeWrong)

/-- 'laws.FnMergeAll': WHATEVER THE INPUT: true; the input reads as it did. -/
def fnMergeAllSpec : ChangeSpec := { name := "fnMergeAll", fn := fun _ => fun
  | [d] => { results := [.lit (.bool true)], args := [d] }
  | _ => none }
def fnMergeAllRow : OpenClaim := { program := "ytkcbgeldnibjcaa", sum := "1d965d2033d0a1e93229b082d3c8394c2ca37dc2964796c6aee559f5f56b2e3d", func := "loop.example/icecores/laws.FnMergeAll", spec := "fnMergeAll", apart := false }
def FnMergeAllSaid : Prop := fnMergeAllRow.holds Try.pinned (OpenSpec.ofChange fnMergeAllSpec)

/-- ITS FALSE NEIGHBOUR: 'it returns false'. Refute it at one input. -/
def fnMergeAllWrong : ChangeSpec := { name := "fnMergeAll", fn := fun _ => fun
  | [d] => { results := [.lit (.bool false)], args := [d] }
  | _ => none }
def FnMergeAllWrongFalsely : Prop := fnMergeAllRow.holds Try.pinned (OpenSpec.ofChange fnMergeAllWrong)

/- THE SECOND FORM. 'bulk': how many values and letters a reading holds, each counted each time it is reached (what is shared counts as often as it is met; a slice's spare places count too). A statement '..UptoSaid' is the law's where the arguments, and the package variables that the reading takes, are together of bulk at most 1048576: NARROWER than '..Said'. Prove '..Said' where nothing that the law and all that it calls make is longer than what came in: it says more and counts as full. Else prove '..UptoSaid'. A law counts once. -/
mutual
def uptoBulk {H : Type} : DataW H → Nat
  | .lit (.string bytes) => bytes.length + 1
  | .lit _ => 1
  | .nil => 1
  | .ptr d => uptoBulk d + 1
  | .slice elems spare => uptoBulkAll elems + uptoBulkAll spare + 1
  | .agg parts => uptoBulkAll parts + 1
  | .iface _ d => uptoBulk d + 1
  | .map entries => uptoBulkEntries entries + 1
  | .held _ => 1
def uptoBulkAll {H : Type} : List (DataW H) → Nat
  | [] => 0
  | d :: r => uptoBulk d + uptoBulkAll r
def uptoBulkEntries {H : Type} : List (Lit × DataW H) → Nat
  | [] => 0
  | x :: r => uptoBulkEntry x + uptoBulkEntries r
def uptoBulkEntry {H : Type} : Lit × DataW H → Nat
  | (.string bytes, d) => bytes.length + uptoBulk d + 1
  | (_, d) => uptoBulk d + 1
 end
def uptoSmall : (H : Type) → List (DataW H) → Bool := fun _ ds => decide (uptoBulkAll ds ≤ 1048576)
def OpenSpec.upto (s : _root_.Go.ChangeSpec) : _root_.Go.OpenSpec := { _root_.Go.OpenSpec.ofChange s with cond := some uptoSmall }

/-- 'laws.FnRecord', WHERE WHAT IT READS IS OF BULK AT MOST 1048576: true; the input reads as it did. -/
def fnRecordUptoRow : OpenClaim := { program := "ytkcbgeldnibjcaa", sum := "1d965d2033d0a1e93229b082d3c8394c2ca37dc2964796c6aee559f5f56b2e3d", func := "loop.example/icecores/laws.FnRecord", spec := "fnRecord", apart := false, narrowed := true }
def FnRecordUptoSaid : Prop := fnRecordUptoRow.holds Try.pinned (OpenSpec.upto fnRecordSpec)

/-- 'laws.FnRecordTotal', WHERE WHAT IT READS IS OF BULK AT MOST 1048576: true; the input reads as it did. -/
def fnRecordTotalUptoRow : OpenClaim := { program := "ytkcbgeldnibjcaa", sum := "1d965d2033d0a1e93229b082d3c8394c2ca37dc2964796c6aee559f5f56b2e3d", func := "loop.example/icecores/laws.FnRecordTotal", spec := "fnRecordTotal", unfollowed := true, recurses := true, apart := false, narrowed := true }
def FnRecordTotalUptoSaid : Prop := fnRecordTotalUptoRow.holds Try.pinned (OpenSpec.upto fnRecordTotalSpec)

/-- 'laws.FnBetween', WHERE WHAT IT READS IS OF BULK AT MOST 1048576: true; the input reads as it did. -/
def fnBetweenUptoRow : OpenClaim := { program := "ytkcbgeldnibjcaa", sum := "1d965d2033d0a1e93229b082d3c8394c2ca37dc2964796c6aee559f5f56b2e3d", func := "loop.example/icecores/laws.FnBetween", spec := "fnBetween", unfollowed := true, recurses := true, apart := false, narrowed := true }
def FnBetweenUptoSaid : Prop := fnBetweenUptoRow.holds Try.pinned (OpenSpec.upto fnBetweenSpec)

/-- 'laws.FnBetweenBin', WHERE WHAT IT READS IS OF BULK AT MOST 1048576: true; the input reads as it did. -/
def fnBetweenBinUptoRow : OpenClaim := { program := "ytkcbgeldnibjcaa", sum := "1d965d2033d0a1e93229b082d3c8394c2ca37dc2964796c6aee559f5f56b2e3d", func := "loop.example/icecores/laws.FnBetweenBin", spec := "fnBetweenBin", unfollowed := true, recurses := true, apart := false, narrowed := true }
def FnBetweenBinUptoSaid : Prop := fnBetweenBinUptoRow.holds Try.pinned (OpenSpec.upto fnBetweenBinSpec)

/-- 'laws.FnBetweenTwice', WHERE WHAT IT READS IS OF BULK AT MOST 1048576: true; the input reads as it did. -/
def fnBetweenTwiceUptoRow : OpenClaim := { program := "ytkcbgeldnibjcaa", sum := "1d965d2033d0a1e93229b082d3c8394c2ca37dc2964796c6aee559f5f56b2e3d", func := "loop.example/icecores/laws.FnBetweenTwice", spec := "fnBetweenTwice", unfollowed := true, recurses := true, apart := false, narrowed := true }
def FnBetweenTwiceUptoSaid : Prop := fnBetweenTwiceUptoRow.holds Try.pinned (OpenSpec.upto fnBetweenTwiceSpec)

/-- 'laws.FnRebin', WHERE WHAT IT READS IS OF BULK AT MOST 1048576: true; the input reads as it did. -/
def fnRebinUptoRow : OpenClaim := { program := "ytkcbgeldnibjcaa", sum := "1d965d2033d0a1e93229b082d3c8394c2ca37dc2964796c6aee559f5f56b2e3d", func := "loop.example/icecores/laws.FnRebin", spec := "fnRebin", unfollowed := true, recurses := true, apart := false, narrowed := true }
def FnRebinUptoSaid : Prop := fnRebinUptoRow.holds Try.pinned (OpenSpec.upto fnRebinSpec)

/-- 'laws.FnRebinSelf', WHERE WHAT IT READS IS OF BULK AT MOST 1048576: true; the input reads as it did. -/
def fnRebinSelfUptoRow : OpenClaim := { program := "ytkcbgeldnibjcaa", sum := "1d965d2033d0a1e93229b082d3c8394c2ca37dc2964796c6aee559f5f56b2e3d", func := "loop.example/icecores/laws.FnRebinSelf", spec := "fnRebinSelf", unfollowed := true, recurses := true, apart := false, narrowed := true }
def FnRebinSelfUptoSaid : Prop := fnRebinSelfUptoRow.holds Try.pinned (OpenSpec.upto fnRebinSelfSpec)

/-- 'laws.FnMerge', WHERE WHAT IT READS IS OF BULK AT MOST 1048576: true; the input reads as it did. -/
def fnMergeUptoRow : OpenClaim := { program := "ytkcbgeldnibjcaa", sum := "1d965d2033d0a1e93229b082d3c8394c2ca37dc2964796c6aee559f5f56b2e3d", func := "loop.example/icecores/laws.FnMerge", spec := "fnMerge", unfollowed := true, recurses := true, apart := false, narrowed := true }
def FnMergeUptoSaid : Prop := fnMergeUptoRow.holds Try.pinned (OpenSpec.upto fnMergeSpec)

/-- 'laws.FnMergeAll', WHERE WHAT IT READS IS OF BULK AT MOST 1048576: true; the input reads as it did. -/
def fnMergeAllUptoRow : OpenClaim := { program := "ytkcbgeldnibjcaa", sum := "1d965d2033d0a1e93229b082d3c8394c2ca37dc2964796c6aee559f5f56b2e3d", func := "loop.example/icecores/laws.FnMergeAll", spec := "fnMergeAll", apart := false, narrowed := true }
def FnMergeAllUptoSaid : Prop := fnMergeAllUptoRow.holds Try.pinned (OpenSpec.upto fnMergeAllSpec)

end Rows
end Go.Proofs.Ytkcbgeldnibjcaa
