/-
  DERIVED. GIVEN WITH THE SEED: THE CARDS: each row of YtcemgdekcfdfhabDoorRows.lean that lists a variable, with what it lists TIED to the program's text (the seventh form; the later family's looks); each row that meets fmt, with fmt's text TOLD by the authors' own Lean function (tested against real Go, not proved from fmt's source: count such statements apart). THE CARD IS WHAT COUNTS. Prove the row's statement (the work); the ties are given (YtcemgdekcfdfhabDoorTie.lean); close each card by the builder's one call (the guide's Derived/Test/ToyasCard.lean, 'card_holds'). Laid BY PROGRAM, IN A SANDBOX (cutbox-door.mjs). By AI agents, Wed Nov 11 2026. No macro, syntax, notation, axiom, sorry.
-/
import Derived.Test.YtcemgdekcfdfhabDoorRows
import GoSem.ClaimSeven
namespace Go.Proofs.YtcemgdekcfdfhabDoor
namespace Rows

/-- THE TIED CARD OF 'laws.FnOrderNthParts'. -/
def fnOrderNthPartsCard : Claim7 := { stood := { row := fnOrderNthPartsRow, standIns := [], harness := (true, "55fa8cd77ada4f3cd86bf58d30e424c5242821b1cbdbe7ad8a9e0cf6745b3332"), looks := false }, kinds := [], alts := [], laidByText := true, laidKinds := [.data, .pinned], laidTests := true, laidLooks := .later }
def FnOrderNthPartsCardSaid : Prop := Claim7.holds Tryd.pinned (.plain (OpenSpec.ofChange fnOrderNthPartsSpec)) fnOrderNthPartsCard

/-- THE TIED CARD OF 'laws.FnOrderPartsJoin'. -/
def fnOrderPartsJoinCard : Claim7 := { stood := { row := fnOrderPartsJoinRow, standIns := [], harness := (true, "55fa8cd77ada4f3cd86bf58d30e424c5242821b1cbdbe7ad8a9e0cf6745b3332"), looks := false }, kinds := [], alts := [], laidByText := true, laidKinds := [.data, .pinned], laidTests := true, laidLooks := .later }
def FnOrderPartsJoinCardSaid : Prop := Claim7.holds Tryd.pinned (.plain (OpenSpec.ofChange fnOrderPartsJoinSpec)) fnOrderPartsJoinCard

/-- THE SECOND FORM's CARD OF 'laws.FnOrderNthParts'. -/
def fnOrderNthPartsUptoCard : Claim7 := { stood := { row := fnOrderNthPartsUptoRow, standIns := [], harness := (true, "55fa8cd77ada4f3cd86bf58d30e424c5242821b1cbdbe7ad8a9e0cf6745b3332"), looks := false }, kinds := [], alts := [], laidByText := true, laidKinds := [.data, .pinned], laidTests := true, laidLooks := .later }
def FnOrderNthPartsUptoCardSaid : Prop := Claim7.holds Tryd.pinned (.plain (OpenSpec.upto fnOrderNthPartsSpec)) fnOrderNthPartsUptoCard

/-- THE SECOND FORM's CARD OF 'laws.FnOrderPartsJoin'. -/
def fnOrderPartsJoinUptoCard : Claim7 := { stood := { row := fnOrderPartsJoinUptoRow, standIns := [], harness := (true, "55fa8cd77ada4f3cd86bf58d30e424c5242821b1cbdbe7ad8a9e0cf6745b3332"), looks := false }, kinds := [], alts := [], laidByText := true, laidKinds := [.data, .pinned], laidTests := true, laidLooks := .later }
def FnOrderPartsJoinUptoCardSaid : Prop := Claim7.holds Tryd.pinned (.plain (OpenSpec.upto fnOrderPartsJoinSpec)) fnOrderPartsJoinUptoCard
end Rows
end Go.Proofs.YtcemgdekcfdfhabDoor
