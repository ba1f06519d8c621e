/-
  DERIVED. GIVEN WITH THE SEED: THE CARDS: each row of YtfmhghemlcbapaaGreatDoorRows.lean that lists a variable, with what it lists TIED to the program's text (the seventh form; the later family's looks); each row that meets fmt, with fmt's text TOLD by the authors' own Lean function (tested against real Go, not proved from fmt's source: count such statements apart). THE CARD IS WHAT COUNTS. Prove the row's statement (the work); the ties are given (YtfmhghemlcbapaaGreatDoorTie.lean); close each card by the builder's one call (the guide's Derived/Test/ToyasCard.lean, 'card_holds'). Laid BY PROGRAM, IN A SANDBOX (cutbox-door.mjs). By AI agents, Wed Nov 11 2026. No macro, syntax, notation, axiom, sorry.
-/
import Derived.Test.YtfmhghemlcbapaaGreatDoorRows
import GoSem.ClaimSeven
namespace Go.Proofs.YtfmhghemlcbapaaGreatDoor
namespace Rows

/-- THE TIED CARD OF 'tombolalaw09.BelowCosts'. -/
def belowCostsCard : Claim7 := { stood := { row := belowCostsRow, standIns := [], harness := (true, "454d7b01f84a11c4b3a35f4f1c3be284702c457f9b612fef073129653a06d769"), looks := false }, kinds := [], alts := [], laidByText := true, laidKinds := [.data, .pinned], laidTests := true, laidLooks := .later }
def BelowCostsCardSaid : Prop := Claim7.holds Tryz.pinned (.plain (OpenSpec.ofChange belowCostsSpec)) belowCostsCard

/-- THE TIED CARD OF 'tombolalaw09.BelowNames'. -/
def belowNamesCard : Claim7 := { stood := { row := belowNamesRow, standIns := [], harness := (true, "454d7b01f84a11c4b3a35f4f1c3be284702c457f9b612fef073129653a06d769"), looks := false }, kinds := [], alts := [], laidByText := true, laidKinds := [.data, .pinned], laidTests := true, laidLooks := .later }
def BelowNamesCardSaid : Prop := Claim7.holds Tryz.pinned (.plain (OpenSpec.ofChange belowNamesSpec)) belowNamesCard

/-- THE TIED CARD OF 'tombolalaw09.BelowRenew'. -/
def belowRenewCard : Claim7 := { stood := { row := belowRenewRow, standIns := [], harness := (true, "454d7b01f84a11c4b3a35f4f1c3be284702c457f9b612fef073129653a06d769"), looks := false }, kinds := [], alts := [], laidByText := true, laidKinds := [.data, .pinned], laidTests := true, laidLooks := .later }
def BelowRenewCardSaid : Prop := Claim7.holds Tryz.pinned (.plain (OpenSpec.ofChange belowRenewSpec)) belowRenewCard

/-- THE TIED CARD OF 'tombolalaw09.BelowMean'. -/
def belowMeanCard : Claim7 := { stood := { row := belowMeanRow, standIns := [], harness := (true, "454d7b01f84a11c4b3a35f4f1c3be284702c457f9b612fef073129653a06d769"), looks := false }, kinds := [], alts := [], laidByText := true, laidKinds := [.data, .pinned], laidTests := true, laidLooks := .later }
def BelowMeanCardSaid : Prop := Claim7.holds Tryz.pinned (.plain (OpenSpec.ofChange belowMeanSpec)) belowMeanCard

/-- THE SECOND FORM's CARD OF 'tombolalaw09.BelowCosts'. -/
def belowCostsUptoCard : Claim7 := { stood := { row := belowCostsUptoRow, standIns := [], harness := (true, "454d7b01f84a11c4b3a35f4f1c3be284702c457f9b612fef073129653a06d769"), looks := false }, kinds := [], alts := [], laidByText := true, laidKinds := [.data, .pinned], laidTests := true, laidLooks := .later }
def BelowCostsUptoCardSaid : Prop := Claim7.holds Tryz.pinned (.plain (OpenSpec.upto belowCostsSpec)) belowCostsUptoCard

/-- THE SECOND FORM's CARD OF 'tombolalaw09.BelowNames'. -/
def belowNamesUptoCard : Claim7 := { stood := { row := belowNamesUptoRow, standIns := [], harness := (true, "454d7b01f84a11c4b3a35f4f1c3be284702c457f9b612fef073129653a06d769"), looks := false }, kinds := [], alts := [], laidByText := true, laidKinds := [.data, .pinned], laidTests := true, laidLooks := .later }
def BelowNamesUptoCardSaid : Prop := Claim7.holds Tryz.pinned (.plain (OpenSpec.upto belowNamesSpec)) belowNamesUptoCard

/-- THE SECOND FORM's CARD OF 'tombolalaw09.BelowRenew'. -/
def belowRenewUptoCard : Claim7 := { stood := { row := belowRenewUptoRow, standIns := [], harness := (true, "454d7b01f84a11c4b3a35f4f1c3be284702c457f9b612fef073129653a06d769"), looks := false }, kinds := [], alts := [], laidByText := true, laidKinds := [.data, .pinned], laidTests := true, laidLooks := .later }
def BelowRenewUptoCardSaid : Prop := Claim7.holds Tryz.pinned (.plain (OpenSpec.upto belowRenewSpec)) belowRenewUptoCard

/-- THE SECOND FORM's CARD OF 'tombolalaw09.BelowMean'. -/
def belowMeanUptoCard : Claim7 := { stood := { row := belowMeanUptoRow, standIns := [], harness := (true, "454d7b01f84a11c4b3a35f4f1c3be284702c457f9b612fef073129653a06d769"), looks := false }, kinds := [], alts := [], laidByText := true, laidKinds := [.data, .pinned], laidTests := true, laidLooks := .later }
def BelowMeanUptoCardSaid : Prop := Claim7.holds Tryz.pinned (.plain (OpenSpec.upto belowMeanSpec)) belowMeanUptoCard
end Rows
end Go.Proofs.YtfmhghemlcbapaaGreatDoor
