/-
  DERIVED. GIVEN WITH THE SEED: THE CARDS: each row of YtcemgdekcfdfhaaDoorRows.lean that lists a variable, with what it lists TIED to the program's text (the seventh form; the later family's looks); each row that meets fmt, with fmt's text TOLD by the authors' own Lean function (tested against real Go, not proved from fmt's source: count such statements apart). THE CARD IS WHAT COUNTS. Prove the row's statement (the work); the ties are given (YtcemgdekcfdfhaaDoorTie.lean); close each card by the builder's one call (the guide's Derived/Test/ToyasCard.lean, 'card_holds'). Laid BY PROGRAM, IN A SANDBOX (cutbox-door.mjs). By AI agents, Wed Nov 11 2026. No macro, syntax, notation, axiom, sorry.
-/
import Derived.Test.YtcemgdekcfdfhaaDoorRows
import GoSem.ClaimSeven
namespace Go.Proofs.YtcemgdekcfdfhaaDoor
namespace Rows

/-- THE TIED CARD OF 'laws.FnOrderNth'. -/
def fnOrderNthCard : Claim7 := { stood := { row := fnOrderNthRow, standIns := [], harness := (true, "873eb95ddee8eed8fa9fdab4c75b4ce469983cdbf58497c92cf06faf5e7336f2"), looks := false }, kinds := [], alts := [], laidByText := true, laidKinds := [.data, .pinned], laidTests := true, laidLooks := .later }
def FnOrderNthCardSaid : Prop := Claim7.holds Tryd.pinned (.plain (OpenSpec.ofChange fnOrderNthSpec)) fnOrderNthCard

/-- THE TIED CARD OF 'laws.FnOrderRank'. -/
def fnOrderRankCard : Claim7 := { stood := { row := fnOrderRankRow, standIns := [], harness := (true, "873eb95ddee8eed8fa9fdab4c75b4ce469983cdbf58497c92cf06faf5e7336f2"), looks := false }, kinds := [], alts := [], laidByText := true, laidKinds := [.data, .pinned], laidTests := true, laidLooks := .later }
def FnOrderRankCardSaid : Prop := Claim7.holds Tryd.pinned (.plain (OpenSpec.ofChange fnOrderRankSpec)) fnOrderRankCard

/-- THE TIED CARD OF 'laws.FnOrderRankTurn'. -/
def fnOrderRankTurnCard : Claim7 := { stood := { row := fnOrderRankTurnRow, standIns := [], harness := (true, "873eb95ddee8eed8fa9fdab4c75b4ce469983cdbf58497c92cf06faf5e7336f2"), looks := false }, kinds := [], alts := [], laidByText := true, laidKinds := [.data, .pinned], laidTests := true, laidLooks := .later }
def FnOrderRankTurnCardSaid : Prop := Claim7.holds Tryd.pinned (.plain (OpenSpec.ofChange fnOrderRankTurnSpec)) fnOrderRankTurnCard

/-- THE TIED CARD OF 'laws.FnOrderParts'. -/
def fnOrderPartsCard : Claim7 := { stood := { row := fnOrderPartsRow, standIns := [], harness := (true, "873eb95ddee8eed8fa9fdab4c75b4ce469983cdbf58497c92cf06faf5e7336f2"), looks := false }, kinds := [], alts := [], laidByText := true, laidKinds := [.data, .pinned], laidTests := true, laidLooks := .later }
def FnOrderPartsCardSaid : Prop := Claim7.holds Tryd.pinned (.plain (OpenSpec.ofChange fnOrderPartsSpec)) fnOrderPartsCard

/-- THE SECOND FORM's CARD OF 'laws.FnOrderNth'. -/
def fnOrderNthUptoCard : Claim7 := { stood := { row := fnOrderNthUptoRow, standIns := [], harness := (true, "873eb95ddee8eed8fa9fdab4c75b4ce469983cdbf58497c92cf06faf5e7336f2"), looks := false }, kinds := [], alts := [], laidByText := true, laidKinds := [.data, .pinned], laidTests := true, laidLooks := .later }
def FnOrderNthUptoCardSaid : Prop := Claim7.holds Tryd.pinned (.plain (OpenSpec.upto fnOrderNthSpec)) fnOrderNthUptoCard

/-- THE SECOND FORM's CARD OF 'laws.FnOrderRank'. -/
def fnOrderRankUptoCard : Claim7 := { stood := { row := fnOrderRankUptoRow, standIns := [], harness := (true, "873eb95ddee8eed8fa9fdab4c75b4ce469983cdbf58497c92cf06faf5e7336f2"), looks := false }, kinds := [], alts := [], laidByText := true, laidKinds := [.data, .pinned], laidTests := true, laidLooks := .later }
def FnOrderRankUptoCardSaid : Prop := Claim7.holds Tryd.pinned (.plain (OpenSpec.upto fnOrderRankSpec)) fnOrderRankUptoCard

/-- THE SECOND FORM's CARD OF 'laws.FnOrderRankTurn'. -/
def fnOrderRankTurnUptoCard : Claim7 := { stood := { row := fnOrderRankTurnUptoRow, standIns := [], harness := (true, "873eb95ddee8eed8fa9fdab4c75b4ce469983cdbf58497c92cf06faf5e7336f2"), looks := false }, kinds := [], alts := [], laidByText := true, laidKinds := [.data, .pinned], laidTests := true, laidLooks := .later }
def FnOrderRankTurnUptoCardSaid : Prop := Claim7.holds Tryd.pinned (.plain (OpenSpec.upto fnOrderRankTurnSpec)) fnOrderRankTurnUptoCard

/-- THE SECOND FORM's CARD OF 'laws.FnOrderParts'. -/
def fnOrderPartsUptoCard : Claim7 := { stood := { row := fnOrderPartsUptoRow, standIns := [], harness := (true, "873eb95ddee8eed8fa9fdab4c75b4ce469983cdbf58497c92cf06faf5e7336f2"), looks := false }, kinds := [], alts := [], laidByText := true, laidKinds := [.data, .pinned], laidTests := true, laidLooks := .later }
def FnOrderPartsUptoCardSaid : Prop := Claim7.holds Tryd.pinned (.plain (OpenSpec.upto fnOrderPartsSpec)) fnOrderPartsUptoCard
end Rows
end Go.Proofs.YtcemgdekcfdfhaaDoor
