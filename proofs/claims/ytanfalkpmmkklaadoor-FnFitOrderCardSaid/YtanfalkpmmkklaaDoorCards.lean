/-
  DERIVED. GIVEN WITH THE SEED: THE CARDS: each row of YtanfalkpmmkklaaDoorRows.lean that lists a variable, with what it lists TIED to the program's text (the seventh form; the later family's looks); each row that meets fmt, with fmt's text TOLD by the authors' own Lean function (tested against real Go, not proved from fmt's source: count such statements apart). THE CARD IS WHAT COUNTS. Prove the row's statement (the work); the ties are given (YtanfalkpmmkklaaDoorTie.lean); close each card by the builder's one call (the guide's Derived/Test/ToyasCard.lean, 'card_holds'). Laid BY PROGRAM, IN A SANDBOX (cutbox-door.mjs). By AI agents, Wed Nov 11 2026. No macro, syntax, notation, axiom, sorry.
-/
import Derived.Test.YtanfalkpmmkklaaDoorRows
import GoSem.ClaimSeven
namespace Go.Proofs.YtanfalkpmmkklaaDoor
namespace Rows

/-- THE TIED CARD OF 'laws.FnFit'. -/
def fnFitCard : Claim7 := { stood := { row := fnFitRow, standIns := [], harness := (true, "35b69fdb4224702fca01e32997e3237ed40cc646e2d835d4833794c4b5fcf20d"), looks := true }, kinds := [], alts := [], laidByText := true, laidKinds := [.sentinel], laidTests := true, laidLooks := .later }
def FnFitCardSaid : Prop := Claim7.holds Tryd.pinned (.plain (OpenSpec.ofChange fnFitSpec)) fnFitCard

/-- THE TIED CARD OF 'laws.FnFitOrder'. -/
def fnFitOrderCard : Claim7 := { stood := { row := fnFitOrderRow, standIns := [], harness := (true, "35b69fdb4224702fca01e32997e3237ed40cc646e2d835d4833794c4b5fcf20d"), looks := true }, kinds := [], alts := [], laidByText := true, laidKinds := [.sentinel], laidTests := true, laidLooks := .later }
def FnFitOrderCardSaid : Prop := Claim7.holds Tryd.pinned (.plain (OpenSpec.ofChange fnFitOrderSpec)) fnFitOrderCard

/-- THE TIED CARD OF 'laws.FnTight'. -/
def fnTightCard : Claim7 := { stood := { row := fnTightRow, standIns := [], harness := (true, "35b69fdb4224702fca01e32997e3237ed40cc646e2d835d4833794c4b5fcf20d"), looks := true }, kinds := [], alts := [], laidByText := true, laidKinds := [.sentinel], laidTests := true, laidLooks := .later }
def FnTightCardSaid : Prop := Claim7.holds Tryd.pinned (.plain (OpenSpec.ofChange fnTightSpec)) fnTightCard

/-- THE TIED CARD OF 'laws.FnTightAny'. -/
def fnTightAnyCard : Claim7 := { stood := { row := fnTightAnyRow, standIns := [], harness := (true, "35b69fdb4224702fca01e32997e3237ed40cc646e2d835d4833794c4b5fcf20d"), looks := true }, kinds := [], alts := [], laidByText := true, laidKinds := [.sentinel], laidTests := true, laidLooks := .later }
def FnTightAnyCardSaid : Prop := Claim7.holds Tryd.pinned (.plain (OpenSpec.ofChange fnTightAnySpec)) fnTightAnyCard

/-- THE TIED CARD OF 'laws.FnTightNone'. -/
def fnTightNoneCard : Claim7 := { stood := { row := fnTightNoneRow, standIns := [], harness := (true, "35b69fdb4224702fca01e32997e3237ed40cc646e2d835d4833794c4b5fcf20d"), looks := true }, kinds := [], alts := [], laidByText := true, laidKinds := [.sentinel], laidTests := true, laidLooks := .later }
def FnTightNoneCardSaid : Prop := Claim7.holds Tryd.pinned (.plain (OpenSpec.ofChange fnTightNoneSpec)) fnTightNoneCard

/-- THE TIED CARD OF 'laws.FnTightWider'. -/
def fnTightWiderCard : Claim7 := { stood := { row := fnTightWiderRow, standIns := [], harness := (true, "35b69fdb4224702fca01e32997e3237ed40cc646e2d835d4833794c4b5fcf20d"), looks := true }, kinds := [], alts := [], laidByText := true, laidKinds := [.sentinel], laidTests := true, laidLooks := .later }
def FnTightWiderCardSaid : Prop := Claim7.holds Tryd.pinned (.plain (OpenSpec.ofChange fnTightWiderSpec)) fnTightWiderCard

/-- THE TIED CARD OF 'laws.FnTightShift'. -/
def fnTightShiftCard : Claim7 := { stood := { row := fnTightShiftRow, standIns := [], harness := (true, "35b69fdb4224702fca01e32997e3237ed40cc646e2d835d4833794c4b5fcf20d"), looks := true }, kinds := [], alts := [], laidByText := true, laidKinds := [.sentinel], laidTests := true, laidLooks := .later }
def FnTightShiftCardSaid : Prop := Claim7.holds Tryd.pinned (.plain (OpenSpec.ofChange fnTightShiftSpec)) fnTightShiftCard

/-- THE TIED CARD OF 'laws.FnYoung'. -/
def fnYoungCard : Claim7 := { stood := { row := fnYoungRow, standIns := [], harness := (true, "35b69fdb4224702fca01e32997e3237ed40cc646e2d835d4833794c4b5fcf20d"), looks := true }, kinds := [], alts := [], laidByText := true, laidKinds := [.sentinel], laidTests := true, laidLooks := .later }
def FnYoungCardSaid : Prop := Claim7.holds Tryd.pinned (.plain (OpenSpec.ofChange fnYoungSpec)) fnYoungCard

/-- THE SECOND FORM's CARD OF 'laws.FnFit'. -/
def fnFitUptoCard : Claim7 := { stood := { row := fnFitUptoRow, standIns := [], harness := (true, "35b69fdb4224702fca01e32997e3237ed40cc646e2d835d4833794c4b5fcf20d"), looks := true }, kinds := [], alts := [], laidByText := true, laidKinds := [.sentinel], laidTests := true, laidLooks := .later }
def FnFitUptoCardSaid : Prop := Claim7.holds Tryd.pinned (.plain (OpenSpec.upto fnFitSpec)) fnFitUptoCard

/-- THE SECOND FORM's CARD OF 'laws.FnFitOrder'. -/
def fnFitOrderUptoCard : Claim7 := { stood := { row := fnFitOrderUptoRow, standIns := [], harness := (true, "35b69fdb4224702fca01e32997e3237ed40cc646e2d835d4833794c4b5fcf20d"), looks := true }, kinds := [], alts := [], laidByText := true, laidKinds := [.sentinel], laidTests := true, laidLooks := .later }
def FnFitOrderUptoCardSaid : Prop := Claim7.holds Tryd.pinned (.plain (OpenSpec.upto fnFitOrderSpec)) fnFitOrderUptoCard

/-- THE SECOND FORM's CARD OF 'laws.FnTight'. -/
def fnTightUptoCard : Claim7 := { stood := { row := fnTightUptoRow, standIns := [], harness := (true, "35b69fdb4224702fca01e32997e3237ed40cc646e2d835d4833794c4b5fcf20d"), looks := true }, kinds := [], alts := [], laidByText := true, laidKinds := [.sentinel], laidTests := true, laidLooks := .later }
def FnTightUptoCardSaid : Prop := Claim7.holds Tryd.pinned (.plain (OpenSpec.upto fnTightSpec)) fnTightUptoCard

/-- THE SECOND FORM's CARD OF 'laws.FnTightAny'. -/
def fnTightAnyUptoCard : Claim7 := { stood := { row := fnTightAnyUptoRow, standIns := [], harness := (true, "35b69fdb4224702fca01e32997e3237ed40cc646e2d835d4833794c4b5fcf20d"), looks := true }, kinds := [], alts := [], laidByText := true, laidKinds := [.sentinel], laidTests := true, laidLooks := .later }
def FnTightAnyUptoCardSaid : Prop := Claim7.holds Tryd.pinned (.plain (OpenSpec.upto fnTightAnySpec)) fnTightAnyUptoCard

/-- THE SECOND FORM's CARD OF 'laws.FnTightNone'. -/
def fnTightNoneUptoCard : Claim7 := { stood := { row := fnTightNoneUptoRow, standIns := [], harness := (true, "35b69fdb4224702fca01e32997e3237ed40cc646e2d835d4833794c4b5fcf20d"), looks := true }, kinds := [], alts := [], laidByText := true, laidKinds := [.sentinel], laidTests := true, laidLooks := .later }
def FnTightNoneUptoCardSaid : Prop := Claim7.holds Tryd.pinned (.plain (OpenSpec.upto fnTightNoneSpec)) fnTightNoneUptoCard

/-- THE SECOND FORM's CARD OF 'laws.FnTightWider'. -/
def fnTightWiderUptoCard : Claim7 := { stood := { row := fnTightWiderUptoRow, standIns := [], harness := (true, "35b69fdb4224702fca01e32997e3237ed40cc646e2d835d4833794c4b5fcf20d"), looks := true }, kinds := [], alts := [], laidByText := true, laidKinds := [.sentinel], laidTests := true, laidLooks := .later }
def FnTightWiderUptoCardSaid : Prop := Claim7.holds Tryd.pinned (.plain (OpenSpec.upto fnTightWiderSpec)) fnTightWiderUptoCard

/-- THE SECOND FORM's CARD OF 'laws.FnTightShift'. -/
def fnTightShiftUptoCard : Claim7 := { stood := { row := fnTightShiftUptoRow, standIns := [], harness := (true, "35b69fdb4224702fca01e32997e3237ed40cc646e2d835d4833794c4b5fcf20d"), looks := true }, kinds := [], alts := [], laidByText := true, laidKinds := [.sentinel], laidTests := true, laidLooks := .later }
def FnTightShiftUptoCardSaid : Prop := Claim7.holds Tryd.pinned (.plain (OpenSpec.upto fnTightShiftSpec)) fnTightShiftUptoCard

/-- THE SECOND FORM's CARD OF 'laws.FnYoung'. -/
def fnYoungUptoCard : Claim7 := { stood := { row := fnYoungUptoRow, standIns := [], harness := (true, "35b69fdb4224702fca01e32997e3237ed40cc646e2d835d4833794c4b5fcf20d"), looks := true }, kinds := [], alts := [], laidByText := true, laidKinds := [.sentinel], laidTests := true, laidLooks := .later }
def FnYoungUptoCardSaid : Prop := Claim7.holds Tryd.pinned (.plain (OpenSpec.upto fnYoungSpec)) fnYoungUptoCard
end Rows
end Go.Proofs.YtanfalkpmmkklaaDoor
