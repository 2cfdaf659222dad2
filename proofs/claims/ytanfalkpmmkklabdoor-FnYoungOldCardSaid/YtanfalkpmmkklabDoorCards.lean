/-
  DERIVED. GIVEN WITH THE SEED: THE CARDS: each row of YtanfalkpmmkklabDoorRows.lean that lists a variable, with what it lists TIED to the program's text (the seventh form; the later family's looks); each row that meets fmt, with fmt's text TOLD by the authors' own Lean function (tested against real Go, not proved from fmt's source: count such statements apart). THE CARD IS WHAT COUNTS. Prove the row's statement (the work); the ties are given (YtanfalkpmmkklabDoorTie.lean); close each card by the builder's one call (the guide's Derived/Test/ToyasCard.lean, 'card_holds'). Laid BY PROGRAM, IN A SANDBOX (cutbox-door.mjs). By AI agents, Wed Nov 11 2026. No macro, syntax, notation, axiom, sorry.
-/
import Derived.Test.YtanfalkpmmkklabDoorRows
import GoSem.ClaimSeven
namespace Go.Proofs.YtanfalkpmmkklabDoor
namespace Rows

/-- THE TIED CARD OF 'laws.FnOld'. -/
def fnOldCard : Claim7 := { stood := { row := fnOldRow, standIns := [], harness := (true, "566038aa31cad9d786210f804f0f71d667291dc46d37ef4d27e55415330e602f"), looks := true }, kinds := [], alts := [], laidByText := true, laidKinds := [.sentinel], laidTests := true, laidLooks := .later }
def FnOldCardSaid : Prop := Claim7.holds Tryd.pinned (.plain (OpenSpec.ofChange fnOldSpec)) fnOldCard

/-- THE TIED CARD OF 'laws.FnWide'. -/
def fnWideCard : Claim7 := { stood := { row := fnWideRow, standIns := [], harness := (true, "566038aa31cad9d786210f804f0f71d667291dc46d37ef4d27e55415330e602f"), looks := true }, kinds := [], alts := [], laidByText := true, laidKinds := [.sentinel], laidTests := true, laidLooks := .later }
def FnWideCardSaid : Prop := Claim7.holds Tryd.pinned (.plain (OpenSpec.ofChange fnWideSpec)) fnWideCard

/-- THE TIED CARD OF 'laws.FnWideOne'. -/
def fnWideOneCard : Claim7 := { stood := { row := fnWideOneRow, standIns := [], harness := (true, "566038aa31cad9d786210f804f0f71d667291dc46d37ef4d27e55415330e602f"), looks := true }, kinds := [], alts := [], laidByText := true, laidKinds := [.sentinel], laidTests := true, laidLooks := .later }
def FnWideOneCardSaid : Prop := Claim7.holds Tryd.pinned (.plain (OpenSpec.ofChange fnWideOneSpec)) fnWideOneCard

/-- THE TIED CARD OF 'laws.FnTightFirst'. -/
def fnTightFirstCard : Claim7 := { stood := { row := fnTightFirstRow, standIns := [], harness := (true, "566038aa31cad9d786210f804f0f71d667291dc46d37ef4d27e55415330e602f"), looks := true }, kinds := [], alts := [], laidByText := true, laidKinds := [.sentinel], laidTests := true, laidLooks := .later }
def FnTightFirstCardSaid : Prop := Claim7.holds Tryd.pinned (.plain (OpenSpec.ofChange fnTightFirstSpec)) fnTightFirstCard

/-- THE TIED CARD OF 'laws.FnTightSteps'. -/
def fnTightStepsCard : Claim7 := { stood := { row := fnTightStepsRow, standIns := [], harness := (true, "566038aa31cad9d786210f804f0f71d667291dc46d37ef4d27e55415330e602f"), looks := true }, kinds := [], alts := [], laidByText := true, laidKinds := [.sentinel], laidTests := true, laidLooks := .later }
def FnTightStepsCardSaid : Prop := Claim7.holds Tryd.pinned (.plain (OpenSpec.ofChange fnTightStepsSpec)) fnTightStepsCard

/-- THE TIED CARD OF 'laws.FnYoungOld'. -/
def fnYoungOldCard : Claim7 := { stood := { row := fnYoungOldRow, standIns := [], harness := (true, "566038aa31cad9d786210f804f0f71d667291dc46d37ef4d27e55415330e602f"), looks := true }, kinds := [], alts := [], laidByText := true, laidKinds := [.sentinel], laidTests := true, laidLooks := .later }
def FnYoungOldCardSaid : Prop := Claim7.holds Tryd.pinned (.plain (OpenSpec.ofChange fnYoungOldSpec)) fnYoungOldCard

/-- THE TIED CARD OF 'laws.FnWindowsOne'. -/
def fnWindowsOneCard : Claim7 := { stood := { row := fnWindowsOneRow, standIns := [], harness := (true, "566038aa31cad9d786210f804f0f71d667291dc46d37ef4d27e55415330e602f"), looks := true }, kinds := [], alts := [], laidByText := true, laidKinds := [.sentinel], laidTests := true, laidLooks := .later }
def FnWindowsOneCardSaid : Prop := Claim7.holds Tryd.pinned (.plain (OpenSpec.ofChange fnWindowsOneSpec)) fnWindowsOneCard

/-- THE SECOND FORM's CARD OF 'laws.FnOld'. -/
def fnOldUptoCard : Claim7 := { stood := { row := fnOldUptoRow, standIns := [], harness := (true, "566038aa31cad9d786210f804f0f71d667291dc46d37ef4d27e55415330e602f"), looks := true }, kinds := [], alts := [], laidByText := true, laidKinds := [.sentinel], laidTests := true, laidLooks := .later }
def FnOldUptoCardSaid : Prop := Claim7.holds Tryd.pinned (.plain (OpenSpec.upto fnOldSpec)) fnOldUptoCard

/-- THE SECOND FORM's CARD OF 'laws.FnWide'. -/
def fnWideUptoCard : Claim7 := { stood := { row := fnWideUptoRow, standIns := [], harness := (true, "566038aa31cad9d786210f804f0f71d667291dc46d37ef4d27e55415330e602f"), looks := true }, kinds := [], alts := [], laidByText := true, laidKinds := [.sentinel], laidTests := true, laidLooks := .later }
def FnWideUptoCardSaid : Prop := Claim7.holds Tryd.pinned (.plain (OpenSpec.upto fnWideSpec)) fnWideUptoCard

/-- THE SECOND FORM's CARD OF 'laws.FnWideOne'. -/
def fnWideOneUptoCard : Claim7 := { stood := { row := fnWideOneUptoRow, standIns := [], harness := (true, "566038aa31cad9d786210f804f0f71d667291dc46d37ef4d27e55415330e602f"), looks := true }, kinds := [], alts := [], laidByText := true, laidKinds := [.sentinel], laidTests := true, laidLooks := .later }
def FnWideOneUptoCardSaid : Prop := Claim7.holds Tryd.pinned (.plain (OpenSpec.upto fnWideOneSpec)) fnWideOneUptoCard

/-- THE SECOND FORM's CARD OF 'laws.FnTightFirst'. -/
def fnTightFirstUptoCard : Claim7 := { stood := { row := fnTightFirstUptoRow, standIns := [], harness := (true, "566038aa31cad9d786210f804f0f71d667291dc46d37ef4d27e55415330e602f"), looks := true }, kinds := [], alts := [], laidByText := true, laidKinds := [.sentinel], laidTests := true, laidLooks := .later }
def FnTightFirstUptoCardSaid : Prop := Claim7.holds Tryd.pinned (.plain (OpenSpec.upto fnTightFirstSpec)) fnTightFirstUptoCard

/-- THE SECOND FORM's CARD OF 'laws.FnTightSteps'. -/
def fnTightStepsUptoCard : Claim7 := { stood := { row := fnTightStepsUptoRow, standIns := [], harness := (true, "566038aa31cad9d786210f804f0f71d667291dc46d37ef4d27e55415330e602f"), looks := true }, kinds := [], alts := [], laidByText := true, laidKinds := [.sentinel], laidTests := true, laidLooks := .later }
def FnTightStepsUptoCardSaid : Prop := Claim7.holds Tryd.pinned (.plain (OpenSpec.upto fnTightStepsSpec)) fnTightStepsUptoCard

/-- THE SECOND FORM's CARD OF 'laws.FnYoungOld'. -/
def fnYoungOldUptoCard : Claim7 := { stood := { row := fnYoungOldUptoRow, standIns := [], harness := (true, "566038aa31cad9d786210f804f0f71d667291dc46d37ef4d27e55415330e602f"), looks := true }, kinds := [], alts := [], laidByText := true, laidKinds := [.sentinel], laidTests := true, laidLooks := .later }
def FnYoungOldUptoCardSaid : Prop := Claim7.holds Tryd.pinned (.plain (OpenSpec.upto fnYoungOldSpec)) fnYoungOldUptoCard

/-- THE SECOND FORM's CARD OF 'laws.FnWindowsOne'. -/
def fnWindowsOneUptoCard : Claim7 := { stood := { row := fnWindowsOneUptoRow, standIns := [], harness := (true, "566038aa31cad9d786210f804f0f71d667291dc46d37ef4d27e55415330e602f"), looks := true }, kinds := [], alts := [], laidByText := true, laidKinds := [.sentinel], laidTests := true, laidLooks := .later }
def FnWindowsOneUptoCardSaid : Prop := Claim7.holds Tryd.pinned (.plain (OpenSpec.upto fnWindowsOneSpec)) fnWindowsOneUptoCard
end Rows
end Go.Proofs.YtanfalkpmmkklabDoor
