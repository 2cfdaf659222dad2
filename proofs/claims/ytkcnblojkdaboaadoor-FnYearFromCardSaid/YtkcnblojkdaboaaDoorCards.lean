/-
  DERIVED. GIVEN WITH THE SEED: THE CARDS: each row of YtkcnblojkdaboaaDoorRows.lean that lists a variable, with what it lists TIED to the program's text (the seventh form; the later family's looks); each row that meets fmt, with fmt's text TOLD by the authors' own Lean function (tested against real Go, not proved from fmt's source: count such statements apart). THE CARD IS WHAT COUNTS. Prove the row's statement (the work); the ties are given (YtkcnblojkdaboaaDoorTie.lean); close each card by the builder's one call (the guide's Derived/Test/ToyasCard.lean, 'card_holds'). Laid BY PROGRAM, IN A SANDBOX (cutbox-door.mjs). By AI agents, Wed Nov 11 2026. No macro, syntax, notation, axiom, sorry.
-/
import Derived.Test.YtkcnblojkdaboaaDoorRows
import GoSem.ClaimSeven
namespace Go.Proofs.YtkcnblojkdaboaaDoor
namespace Rows

/-- THE TIED CARD OF 'laws.FnYearText'. -/
def fnYearTextCard : Claim7 := { stood := { row := fnYearTextRow, standIns := [], harness := (true, "c640b981a93e60623f73cb3bf1c8edafe0a2d9a56db159b830052ccc6851f72e"), looks := true }, kinds := [], alts := [], laidByText := true, laidKinds := [.data, .data, .data, .sentinel, .sentinel], laidTests := true, laidLooks := .later }
def FnYearTextCardSaid : Prop := Claim7.holds Tryd.pinned (.plain (OpenSpec.ofChange fnYearTextSpec)) fnYearTextCard

/-- THE TIED CARD OF 'laws.FnYearTextEra'. -/
def fnYearTextEraCard : Claim7 := { stood := { row := fnYearTextEraRow, standIns := [], harness := (true, "c640b981a93e60623f73cb3bf1c8edafe0a2d9a56db159b830052ccc6851f72e"), looks := true }, kinds := [], alts := [], laidByText := true, laidKinds := [.data, .data, .data], laidTests := true, laidLooks := .later }
def FnYearTextEraCardSaid : Prop := Claim7.holds Tryd.pinned (.plain (OpenSpec.ofChange fnYearTextEraSpec)) fnYearTextEraCard

/-- THE TIED CARD OF 'laws.FnYearFrom'. -/
def fnYearFromCard : Claim7 := { stood := { row := fnYearFromRow, standIns := [], harness := (true, "c640b981a93e60623f73cb3bf1c8edafe0a2d9a56db159b830052ccc6851f72e"), looks := true }, kinds := [], alts := [], laidByText := true, laidKinds := [.data, .data, .data, .sentinel, .sentinel], laidTests := true, laidLooks := .later }
def FnYearFromCardSaid : Prop := Claim7.holds Tryd.pinned (.plain (OpenSpec.ofChange fnYearFromSpec)) fnYearFromCard

/-- THE TIED CARD OF 'laws.FnYearOf'. -/
def fnYearOfCard : Claim7 := { stood := { row := fnYearOfRow, standIns := [], harness := (true, "c640b981a93e60623f73cb3bf1c8edafe0a2d9a56db159b830052ccc6851f72e"), looks := true }, kinds := [], alts := [], laidByText := true, laidKinds := [.data, .data, .data], laidTests := true, laidLooks := .later }
def FnYearOfCardSaid : Prop := Claim7.holds Tryd.pinned (.plain (OpenSpec.ofChange fnYearOfSpec)) fnYearOfCard

/-- THE TIED CARD OF 'laws.FnYearTextNext'. -/
def fnYearTextNextCard : Claim7 := { stood := { row := fnYearTextNextRow, standIns := [], harness := (true, "c640b981a93e60623f73cb3bf1c8edafe0a2d9a56db159b830052ccc6851f72e"), looks := true }, kinds := [], alts := [], laidByText := true, laidKinds := [.data, .data, .data], laidTests := true, laidLooks := .later }
def FnYearTextNextCardSaid : Prop := Claim7.holds Tryd.pinned (.plain (OpenSpec.ofChange fnYearTextNextSpec)) fnYearTextNextCard

/-- THE TIED CARD OF 'laws.FnExactYearText'. -/
def fnExactYearTextCard : Claim7 := { stood := { row := fnExactYearTextRow, standIns := [], harness := (true, "c640b981a93e60623f73cb3bf1c8edafe0a2d9a56db159b830052ccc6851f72e"), looks := true }, kinds := [], alts := [], laidByText := true, laidKinds := [.data, .data, .data], laidTests := true, laidLooks := .later }
def FnExactYearTextCardSaid : Prop := Claim7.holds Tryd.pinned (.plain (OpenSpec.ofChange fnExactYearTextSpec)) fnExactYearTextCard

/-- THE TIED CARD OF 'laws.FnExactYearFrom'. -/
def fnExactYearFromCard : Claim7 := { stood := { row := fnExactYearFromRow, standIns := [], harness := (true, "c640b981a93e60623f73cb3bf1c8edafe0a2d9a56db159b830052ccc6851f72e"), looks := true }, kinds := [], alts := [], laidByText := true, laidKinds := [.data, .data, .data, .sentinel, .sentinel], laidTests := true, laidLooks := .later }
def FnExactYearFromCardSaid : Prop := Claim7.holds Tryd.pinned (.plain (OpenSpec.ofChange fnExactYearFromSpec)) fnExactYearFromCard

/-- THE SECOND FORM's CARD OF 'laws.FnYearText'. -/
def fnYearTextUptoCard : Claim7 := { stood := { row := fnYearTextUptoRow, standIns := [], harness := (true, "c640b981a93e60623f73cb3bf1c8edafe0a2d9a56db159b830052ccc6851f72e"), looks := true }, kinds := [], alts := [], laidByText := true, laidKinds := [.data, .data, .data, .sentinel, .sentinel], laidTests := true, laidLooks := .later }
def FnYearTextUptoCardSaid : Prop := Claim7.holds Tryd.pinned (.plain (OpenSpec.upto fnYearTextSpec)) fnYearTextUptoCard

/-- THE SECOND FORM's CARD OF 'laws.FnYearTextEra'. -/
def fnYearTextEraUptoCard : Claim7 := { stood := { row := fnYearTextEraUptoRow, standIns := [], harness := (true, "c640b981a93e60623f73cb3bf1c8edafe0a2d9a56db159b830052ccc6851f72e"), looks := true }, kinds := [], alts := [], laidByText := true, laidKinds := [.data, .data, .data], laidTests := true, laidLooks := .later }
def FnYearTextEraUptoCardSaid : Prop := Claim7.holds Tryd.pinned (.plain (OpenSpec.upto fnYearTextEraSpec)) fnYearTextEraUptoCard

/-- THE SECOND FORM's CARD OF 'laws.FnYearFrom'. -/
def fnYearFromUptoCard : Claim7 := { stood := { row := fnYearFromUptoRow, standIns := [], harness := (true, "c640b981a93e60623f73cb3bf1c8edafe0a2d9a56db159b830052ccc6851f72e"), looks := true }, kinds := [], alts := [], laidByText := true, laidKinds := [.data, .data, .data, .sentinel, .sentinel], laidTests := true, laidLooks := .later }
def FnYearFromUptoCardSaid : Prop := Claim7.holds Tryd.pinned (.plain (OpenSpec.upto fnYearFromSpec)) fnYearFromUptoCard

/-- THE SECOND FORM's CARD OF 'laws.FnYearOf'. -/
def fnYearOfUptoCard : Claim7 := { stood := { row := fnYearOfUptoRow, standIns := [], harness := (true, "c640b981a93e60623f73cb3bf1c8edafe0a2d9a56db159b830052ccc6851f72e"), looks := true }, kinds := [], alts := [], laidByText := true, laidKinds := [.data, .data, .data], laidTests := true, laidLooks := .later }
def FnYearOfUptoCardSaid : Prop := Claim7.holds Tryd.pinned (.plain (OpenSpec.upto fnYearOfSpec)) fnYearOfUptoCard

/-- THE SECOND FORM's CARD OF 'laws.FnYearTextNext'. -/
def fnYearTextNextUptoCard : Claim7 := { stood := { row := fnYearTextNextUptoRow, standIns := [], harness := (true, "c640b981a93e60623f73cb3bf1c8edafe0a2d9a56db159b830052ccc6851f72e"), looks := true }, kinds := [], alts := [], laidByText := true, laidKinds := [.data, .data, .data], laidTests := true, laidLooks := .later }
def FnYearTextNextUptoCardSaid : Prop := Claim7.holds Tryd.pinned (.plain (OpenSpec.upto fnYearTextNextSpec)) fnYearTextNextUptoCard

/-- THE SECOND FORM's CARD OF 'laws.FnExactYearText'. -/
def fnExactYearTextUptoCard : Claim7 := { stood := { row := fnExactYearTextUptoRow, standIns := [], harness := (true, "c640b981a93e60623f73cb3bf1c8edafe0a2d9a56db159b830052ccc6851f72e"), looks := true }, kinds := [], alts := [], laidByText := true, laidKinds := [.data, .data, .data], laidTests := true, laidLooks := .later }
def FnExactYearTextUptoCardSaid : Prop := Claim7.holds Tryd.pinned (.plain (OpenSpec.upto fnExactYearTextSpec)) fnExactYearTextUptoCard

/-- THE SECOND FORM's CARD OF 'laws.FnExactYearFrom'. -/
def fnExactYearFromUptoCard : Claim7 := { stood := { row := fnExactYearFromUptoRow, standIns := [], harness := (true, "c640b981a93e60623f73cb3bf1c8edafe0a2d9a56db159b830052ccc6851f72e"), looks := true }, kinds := [], alts := [], laidByText := true, laidKinds := [.data, .data, .data, .sentinel, .sentinel], laidTests := true, laidLooks := .later }
def FnExactYearFromUptoCardSaid : Prop := Claim7.holds Tryd.pinned (.plain (OpenSpec.upto fnExactYearFromSpec)) fnExactYearFromUptoCard
end Rows
end Go.Proofs.YtkcnblojkdaboaaDoor
