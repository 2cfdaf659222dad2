/-
  DERIVED. GIVEN WITH THE SEED: THE CARDS: each row of YtcemgdekcfdfhacDoorRows.lean that lists a variable, with what it lists TIED to the program's text (the seventh form; the later family's looks); each row that meets fmt, with fmt's text TOLD by the authors' own Lean function (tested against real Go, not proved from fmt's source: count such statements apart). THE CARD IS WHAT COUNTS. Prove the row's statement (the work); the ties are given (YtcemgdekcfdfhacDoorTie.lean); close each card by the builder's one call (the guide's Derived/Test/ToyasCard.lean, 'card_holds'). Laid BY PROGRAM, IN A SANDBOX (cutbox-door.mjs). By AI agents, Wed Nov 11 2026. No macro, syntax, notation, axiom, sorry.
-/
import Derived.Test.YtcemgdekcfdfhacDoorRows
import GoSem.ClaimSeven
namespace Go.Proofs.YtcemgdekcfdfhacDoor
namespace Rows

/-- THE TIED CARD OF 'laws.FnExactOrderParts'. -/
def fnExactOrderPartsCard : Claim7 := { stood := { row := fnExactOrderPartsRow, standIns := [], harness := (true, "5fa38391de3ca9843d72c8b63d4bb19782ebf4706a27c15ee404a36592d6c604"), looks := false }, kinds := [], alts := [], laidByText := true, laidKinds := [.data, .pinned], laidTests := true, laidLooks := .later }
def FnExactOrderPartsCardSaid : Prop := Claim7.holds Tryd.pinned (.plain (OpenSpec.ofChange fnExactOrderPartsSpec)) fnExactOrderPartsCard

/-- THE TIED CARD OF 'laws.FnExactOrderRank'. -/
def fnExactOrderRankCard : Claim7 := { stood := { row := fnExactOrderRankRow, standIns := [], harness := (true, "5fa38391de3ca9843d72c8b63d4bb19782ebf4706a27c15ee404a36592d6c604"), looks := false }, kinds := [], alts := [], laidByText := true, laidKinds := [.data, .pinned], laidTests := true, laidLooks := .later }
def FnExactOrderRankCardSaid : Prop := Claim7.holds Tryd.pinned (.plain (OpenSpec.ofChange fnExactOrderRankSpec)) fnExactOrderRankCard

/-- THE SECOND FORM's CARD OF 'laws.FnExactOrderParts'. -/
def fnExactOrderPartsUptoCard : Claim7 := { stood := { row := fnExactOrderPartsUptoRow, standIns := [], harness := (true, "5fa38391de3ca9843d72c8b63d4bb19782ebf4706a27c15ee404a36592d6c604"), looks := false }, kinds := [], alts := [], laidByText := true, laidKinds := [.data, .pinned], laidTests := true, laidLooks := .later }
def FnExactOrderPartsUptoCardSaid : Prop := Claim7.holds Tryd.pinned (.plain (OpenSpec.upto fnExactOrderPartsSpec)) fnExactOrderPartsUptoCard

/-- THE SECOND FORM's CARD OF 'laws.FnExactOrderRank'. -/
def fnExactOrderRankUptoCard : Claim7 := { stood := { row := fnExactOrderRankUptoRow, standIns := [], harness := (true, "5fa38391de3ca9843d72c8b63d4bb19782ebf4706a27c15ee404a36592d6c604"), looks := false }, kinds := [], alts := [], laidByText := true, laidKinds := [.data, .pinned], laidTests := true, laidLooks := .later }
def FnExactOrderRankUptoCardSaid : Prop := Claim7.holds Tryd.pinned (.plain (OpenSpec.upto fnExactOrderRankSpec)) fnExactOrderRankUptoCard
end Rows
end Go.Proofs.YtcemgdekcfdfhacDoor
