/-
  DERIVED. GIVEN WITH THE SEED: THE CARDS: each row of YtfdpddlefobcpaaGreatDoorRows.lean that lists a variable, with what it lists TIED to the program's text (the seventh form; the later family's looks); each row that meets fmt, with fmt's text TOLD by the authors' own Lean function (tested against real Go, not proved from fmt's source: count such statements apart). THE CARD IS WHAT COUNTS. Prove the row's statement (the work); the ties are given (YtfdpddlefobcpaaGreatDoorTie.lean); close each card by the builder's one call (the guide's Derived/Test/ToyasCard.lean, 'card_holds'). Laid BY PROGRAM, IN A SANDBOX (cutbox-door.mjs). By AI agents, Wed Nov 11 2026. No macro, syntax, notation, axiom, sorry.
-/
import Derived.Test.YtfdpddlefobcpaaGreatDoorRows
import GoSem.ClaimSeven
namespace Go.Proofs.YtfdpddlefobcpaaGreatDoor
namespace Rows

/-- THE TIED CARD OF 'tombolalaw11.AliasDraws'. -/
def aliasDrawsCard : Claim7 := { stood := { row := aliasDrawsRow, standIns := [], harness := (true, "6c298a1ec3f5d00b7c83b8cb2872f51a6c934be870247701363861601c0f73b7"), looks := false }, kinds := [], alts := [], laidByText := true, laidKinds := [.data, .pinned], laidTests := true, laidLooks := .later }
def AliasDrawsCardSaid : Prop := Claim7.holds Tryz.pinned (.plain (OpenSpec.ofChange aliasDrawsSpec)) aliasDrawsCard

/-- THE TIED CARD OF 'tombolalaw11.AliasNames'. -/
def aliasNamesCard : Claim7 := { stood := { row := aliasNamesRow, standIns := [], harness := (true, "6c298a1ec3f5d00b7c83b8cb2872f51a6c934be870247701363861601c0f73b7"), looks := false }, kinds := [], alts := [], laidByText := true, laidKinds := [.data, .pinned], laidTests := true, laidLooks := .later }
def AliasNamesCardSaid : Prop := Claim7.holds Tryz.pinned (.plain (OpenSpec.ofChange aliasNamesSpec)) aliasNamesCard

/-- THE TIED CARD OF 'tombolalaw11.AliasTwo'. -/
def aliasTwoCard : Claim7 := { stood := { row := aliasTwoRow, standIns := [], harness := (true, "6c298a1ec3f5d00b7c83b8cb2872f51a6c934be870247701363861601c0f73b7"), looks := false }, kinds := [], alts := [], laidByText := true, laidKinds := [.data, .pinned], laidTests := true, laidLooks := .later }
def AliasTwoCardSaid : Prop := Claim7.holds Tryz.pinned (.plain (OpenSpec.ofChange aliasTwoSpec)) aliasTwoCard

/-- THE TIED CARD OF 'tombolalaw11.AliasEvenly'. -/
def aliasEvenlyCard : Claim7 := { stood := { row := aliasEvenlyRow, standIns := [], harness := (true, "6c298a1ec3f5d00b7c83b8cb2872f51a6c934be870247701363861601c0f73b7"), looks := false }, kinds := [], alts := [], laidByText := true, laidKinds := [.data, .pinned], laidTests := true, laidLooks := .later }
def AliasEvenlyCardSaid : Prop := Claim7.holds Tryz.pinned (.plain (OpenSpec.ofChange aliasEvenlySpec)) aliasEvenlyCard

/-- THE SECOND FORM's CARD OF 'tombolalaw11.AliasDraws'. -/
def aliasDrawsUptoCard : Claim7 := { stood := { row := aliasDrawsUptoRow, standIns := [], harness := (true, "6c298a1ec3f5d00b7c83b8cb2872f51a6c934be870247701363861601c0f73b7"), looks := false }, kinds := [], alts := [], laidByText := true, laidKinds := [.data, .pinned], laidTests := true, laidLooks := .later }
def AliasDrawsUptoCardSaid : Prop := Claim7.holds Tryz.pinned (.plain (OpenSpec.upto aliasDrawsSpec)) aliasDrawsUptoCard

/-- THE SECOND FORM's CARD OF 'tombolalaw11.AliasNames'. -/
def aliasNamesUptoCard : Claim7 := { stood := { row := aliasNamesUptoRow, standIns := [], harness := (true, "6c298a1ec3f5d00b7c83b8cb2872f51a6c934be870247701363861601c0f73b7"), looks := false }, kinds := [], alts := [], laidByText := true, laidKinds := [.data, .pinned], laidTests := true, laidLooks := .later }
def AliasNamesUptoCardSaid : Prop := Claim7.holds Tryz.pinned (.plain (OpenSpec.upto aliasNamesSpec)) aliasNamesUptoCard

/-- THE SECOND FORM's CARD OF 'tombolalaw11.AliasTwo'. -/
def aliasTwoUptoCard : Claim7 := { stood := { row := aliasTwoUptoRow, standIns := [], harness := (true, "6c298a1ec3f5d00b7c83b8cb2872f51a6c934be870247701363861601c0f73b7"), looks := false }, kinds := [], alts := [], laidByText := true, laidKinds := [.data, .pinned], laidTests := true, laidLooks := .later }
def AliasTwoUptoCardSaid : Prop := Claim7.holds Tryz.pinned (.plain (OpenSpec.upto aliasTwoSpec)) aliasTwoUptoCard

/-- THE SECOND FORM's CARD OF 'tombolalaw11.AliasEvenly'. -/
def aliasEvenlyUptoCard : Claim7 := { stood := { row := aliasEvenlyUptoRow, standIns := [], harness := (true, "6c298a1ec3f5d00b7c83b8cb2872f51a6c934be870247701363861601c0f73b7"), looks := false }, kinds := [], alts := [], laidByText := true, laidKinds := [.data, .pinned], laidTests := true, laidLooks := .later }
def AliasEvenlyUptoCardSaid : Prop := Claim7.holds Tryz.pinned (.plain (OpenSpec.upto aliasEvenlySpec)) aliasEvenlyUptoCard
end Rows
end Go.Proofs.YtfdpddlefobcpaaGreatDoor
