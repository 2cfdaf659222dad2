/-
  DERIVED. GIVEN WITH THE SEED: THE CARDS: each row of YtanfalkpmmkklacDoorRows.lean that lists a variable, with what it lists TIED to the program's text (the seventh form; the later family's looks); each row that meets fmt, with fmt's text TOLD by the authors' own Lean function (tested against real Go, not proved from fmt's source: count such statements apart). THE CARD IS WHAT COUNTS. Prove the row's statement (the work); the ties are given (YtanfalkpmmkklacDoorTie.lean); close each card by the builder's one call (the guide's Derived/Test/ToyasCard.lean, 'card_holds'). Laid BY PROGRAM, IN A SANDBOX (cutbox-door.mjs). By AI agents, Wed Nov 11 2026. No macro, syntax, notation, axiom, sorry.
-/
import Derived.Test.YtanfalkpmmkklacDoorRows
import GoSem.ClaimSeven
namespace Go.Proofs.YtanfalkpmmkklacDoor
namespace Rows

/-- THE TIED CARD OF 'laws.FnExactWindowsTight'. -/
def fnExactWindowsTightCard : Claim7 := { stood := { row := fnExactWindowsTightRow, standIns := [], harness := (true, "11b99579c0806a775cb3d74401b0554eaa9728d9ad295e87bcff33bc16d2ca86"), looks := true }, kinds := [], alts := [], laidByText := true, laidKinds := [.sentinel], laidTests := true, laidLooks := .later }
def FnExactWindowsTightCardSaid : Prop := Claim7.holds Tryd.pinned (.plain (OpenSpec.ofChange fnExactWindowsTightSpec)) fnExactWindowsTightCard

/-- THE TIED CARD OF 'laws.FnExactWindowsYoung'. -/
def fnExactWindowsYoungCard : Claim7 := { stood := { row := fnExactWindowsYoungRow, standIns := [], harness := (true, "11b99579c0806a775cb3d74401b0554eaa9728d9ad295e87bcff33bc16d2ca86"), looks := true }, kinds := [], alts := [], laidByText := true, laidKinds := [.sentinel], laidTests := true, laidLooks := .later }
def FnExactWindowsYoungCardSaid : Prop := Claim7.holds Tryd.pinned (.plain (OpenSpec.ofChange fnExactWindowsYoungSpec)) fnExactWindowsYoungCard

/-- THE TIED CARD OF 'laws.FnExactWindowsOld'. -/
def fnExactWindowsOldCard : Claim7 := { stood := { row := fnExactWindowsOldRow, standIns := [], harness := (true, "11b99579c0806a775cb3d74401b0554eaa9728d9ad295e87bcff33bc16d2ca86"), looks := true }, kinds := [], alts := [], laidByText := true, laidKinds := [.sentinel], laidTests := true, laidLooks := .later }
def FnExactWindowsOldCardSaid : Prop := Claim7.holds Tryd.pinned (.plain (OpenSpec.ofChange fnExactWindowsOldSpec)) fnExactWindowsOldCard

/-- THE TIED CARD OF 'laws.FnExactWindowsWide'. -/
def fnExactWindowsWideCard : Claim7 := { stood := { row := fnExactWindowsWideRow, standIns := [], harness := (true, "11b99579c0806a775cb3d74401b0554eaa9728d9ad295e87bcff33bc16d2ca86"), looks := true }, kinds := [], alts := [], laidByText := true, laidKinds := [.sentinel], laidTests := true, laidLooks := .later }
def FnExactWindowsWideCardSaid : Prop := Claim7.holds Tryd.pinned (.plain (OpenSpec.ofChange fnExactWindowsWideSpec)) fnExactWindowsWideCard

/-- THE SECOND FORM's CARD OF 'laws.FnExactWindowsTight'. -/
def fnExactWindowsTightUptoCard : Claim7 := { stood := { row := fnExactWindowsTightUptoRow, standIns := [], harness := (true, "11b99579c0806a775cb3d74401b0554eaa9728d9ad295e87bcff33bc16d2ca86"), looks := true }, kinds := [], alts := [], laidByText := true, laidKinds := [.sentinel], laidTests := true, laidLooks := .later }
def FnExactWindowsTightUptoCardSaid : Prop := Claim7.holds Tryd.pinned (.plain (OpenSpec.upto fnExactWindowsTightSpec)) fnExactWindowsTightUptoCard

/-- THE SECOND FORM's CARD OF 'laws.FnExactWindowsYoung'. -/
def fnExactWindowsYoungUptoCard : Claim7 := { stood := { row := fnExactWindowsYoungUptoRow, standIns := [], harness := (true, "11b99579c0806a775cb3d74401b0554eaa9728d9ad295e87bcff33bc16d2ca86"), looks := true }, kinds := [], alts := [], laidByText := true, laidKinds := [.sentinel], laidTests := true, laidLooks := .later }
def FnExactWindowsYoungUptoCardSaid : Prop := Claim7.holds Tryd.pinned (.plain (OpenSpec.upto fnExactWindowsYoungSpec)) fnExactWindowsYoungUptoCard

/-- THE SECOND FORM's CARD OF 'laws.FnExactWindowsOld'. -/
def fnExactWindowsOldUptoCard : Claim7 := { stood := { row := fnExactWindowsOldUptoRow, standIns := [], harness := (true, "11b99579c0806a775cb3d74401b0554eaa9728d9ad295e87bcff33bc16d2ca86"), looks := true }, kinds := [], alts := [], laidByText := true, laidKinds := [.sentinel], laidTests := true, laidLooks := .later }
def FnExactWindowsOldUptoCardSaid : Prop := Claim7.holds Tryd.pinned (.plain (OpenSpec.upto fnExactWindowsOldSpec)) fnExactWindowsOldUptoCard

/-- THE SECOND FORM's CARD OF 'laws.FnExactWindowsWide'. -/
def fnExactWindowsWideUptoCard : Claim7 := { stood := { row := fnExactWindowsWideUptoRow, standIns := [], harness := (true, "11b99579c0806a775cb3d74401b0554eaa9728d9ad295e87bcff33bc16d2ca86"), looks := true }, kinds := [], alts := [], laidByText := true, laidKinds := [.sentinel], laidTests := true, laidLooks := .later }
def FnExactWindowsWideUptoCardSaid : Prop := Claim7.holds Tryd.pinned (.plain (OpenSpec.upto fnExactWindowsWideSpec)) fnExactWindowsWideUptoCard
end Rows
end Go.Proofs.YtanfalkpmmkklacDoor
