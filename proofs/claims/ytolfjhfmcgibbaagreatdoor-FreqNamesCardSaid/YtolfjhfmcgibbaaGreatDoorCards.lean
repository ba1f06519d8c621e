/-
  DERIVED. GIVEN WITH THE SEED: THE CARDS: each row of YtolfjhfmcgibbaaGreatDoorRows.lean that lists a variable, with what it lists TIED to the program's text (the seventh form; the later family's looks); each row that meets fmt, with fmt's text TOLD by the authors' own Lean function (tested against real Go, not proved from fmt's source: count such statements apart). THE CARD IS WHAT COUNTS. Prove the row's statement (the work); the ties are given (YtolfjhfmcgibbaaGreatDoorTie.lean); close each card by the builder's one call (the guide's Derived/Test/ToyasCard.lean, 'card_holds'). Laid BY PROGRAM, IN A SANDBOX (cutbox-door.mjs). By AI agents, Wed Nov 11 2026. No macro, syntax, notation, axiom, sorry.
-/
import Derived.Test.YtolfjhfmcgibbaaGreatDoorRows
import GoSem.ClaimSeven
namespace Go.Proofs.YtolfjhfmcgibbaaGreatDoor
namespace Rows

/-- THE TIED CARD OF 'tombolalaw10.FreqTells'. -/
def freqTellsCard : Claim7 := { stood := { row := freqTellsRow, standIns := [], harness := (true, "fbb075e61de1d1c89a2654dac794c5ce7ab1ef9c2c497e7369fdb918a5bbbdab"), looks := false }, kinds := [], alts := [], laidByText := true, laidKinds := [.data, .pinned], laidTests := true, laidLooks := .later }
def FreqTellsCardSaid : Prop := Claim7.holds Tryz.pinned (.plain (OpenSpec.ofChange freqTellsSpec)) freqTellsCard

/-- THE TIED CARD OF 'tombolalaw10.FreqDraws'. -/
def freqDrawsCard : Claim7 := { stood := { row := freqDrawsRow, standIns := [], harness := (true, "fbb075e61de1d1c89a2654dac794c5ce7ab1ef9c2c497e7369fdb918a5bbbdab"), looks := false }, kinds := [], alts := [], laidByText := true, laidKinds := [.data, .pinned], laidTests := true, laidLooks := .later }
def FreqDrawsCardSaid : Prop := Claim7.holds Tryz.pinned (.plain (OpenSpec.ofChange freqDrawsSpec)) freqDrawsCard

/-- THE TIED CARD OF 'tombolalaw10.FreqNames'. -/
def freqNamesCard : Claim7 := { stood := { row := freqNamesRow, standIns := [], harness := (true, "fbb075e61de1d1c89a2654dac794c5ce7ab1ef9c2c497e7369fdb918a5bbbdab"), looks := false }, kinds := [], alts := [], laidByText := true, laidKinds := [.data, .pinned], laidTests := true, laidLooks := .later }
def FreqNamesCardSaid : Prop := Claim7.holds Tryz.pinned (.plain (OpenSpec.ofChange freqNamesSpec)) freqNamesCard

/-- THE TIED CARD OF 'tombolalaw10.FreqShares'. -/
def freqSharesCard : Claim7 := { stood := { row := freqSharesRow, standIns := [], harness := (true, "fbb075e61de1d1c89a2654dac794c5ce7ab1ef9c2c497e7369fdb918a5bbbdab"), looks := false }, kinds := [], alts := [], laidByText := true, laidKinds := [.data, .pinned], laidTests := true, laidLooks := .later }
def FreqSharesCardSaid : Prop := Claim7.holds Tryz.pinned (.plain (OpenSpec.ofChange freqSharesSpec)) freqSharesCard

/-- THE TIED CARD OF 'tombolalaw10.FreqTimes'. -/
def freqTimesCard : Claim7 := { stood := { row := freqTimesRow, standIns := [], harness := (true, "fbb075e61de1d1c89a2654dac794c5ce7ab1ef9c2c497e7369fdb918a5bbbdab"), looks := false }, kinds := [], alts := [], laidByText := true, laidKinds := [.data, .pinned], laidTests := true, laidLooks := .later }
def FreqTimesCardSaid : Prop := Claim7.holds Tryz.pinned (.plain (OpenSpec.ofChange freqTimesSpec)) freqTimesCard

/-- THE TIED CARD OF 'tombolalaw10.FreqParted'. -/
def freqPartedCard : Claim7 := { stood := { row := freqPartedRow, standIns := [], harness := (true, "fbb075e61de1d1c89a2654dac794c5ce7ab1ef9c2c497e7369fdb918a5bbbdab"), looks := false }, kinds := [], alts := [], laidByText := true, laidKinds := [.data, .pinned], laidTests := true, laidLooks := .later }
def FreqPartedCardSaid : Prop := Claim7.holds Tryz.pinned (.plain (OpenSpec.ofChange freqPartedSpec)) freqPartedCard

/-- THE TIED CARD OF 'tombolalaw10.FreqCost'. -/
def freqCostCard : Claim7 := { stood := { row := freqCostRow, standIns := [], harness := (true, "fbb075e61de1d1c89a2654dac794c5ce7ab1ef9c2c497e7369fdb918a5bbbdab"), looks := false }, kinds := [], alts := [], laidByText := true, laidKinds := [.data, .pinned], laidTests := true, laidLooks := .later }
def FreqCostCardSaid : Prop := Claim7.holds Tryz.pinned (.plain (OpenSpec.ofChange freqCostSpec)) freqCostCard

/-- THE SECOND FORM's CARD OF 'tombolalaw10.FreqTells'. -/
def freqTellsUptoCard : Claim7 := { stood := { row := freqTellsUptoRow, standIns := [], harness := (true, "fbb075e61de1d1c89a2654dac794c5ce7ab1ef9c2c497e7369fdb918a5bbbdab"), looks := false }, kinds := [], alts := [], laidByText := true, laidKinds := [.data, .pinned], laidTests := true, laidLooks := .later }
def FreqTellsUptoCardSaid : Prop := Claim7.holds Tryz.pinned (.plain (OpenSpec.upto freqTellsSpec)) freqTellsUptoCard

/-- THE SECOND FORM's CARD OF 'tombolalaw10.FreqDraws'. -/
def freqDrawsUptoCard : Claim7 := { stood := { row := freqDrawsUptoRow, standIns := [], harness := (true, "fbb075e61de1d1c89a2654dac794c5ce7ab1ef9c2c497e7369fdb918a5bbbdab"), looks := false }, kinds := [], alts := [], laidByText := true, laidKinds := [.data, .pinned], laidTests := true, laidLooks := .later }
def FreqDrawsUptoCardSaid : Prop := Claim7.holds Tryz.pinned (.plain (OpenSpec.upto freqDrawsSpec)) freqDrawsUptoCard

/-- THE SECOND FORM's CARD OF 'tombolalaw10.FreqNames'. -/
def freqNamesUptoCard : Claim7 := { stood := { row := freqNamesUptoRow, standIns := [], harness := (true, "fbb075e61de1d1c89a2654dac794c5ce7ab1ef9c2c497e7369fdb918a5bbbdab"), looks := false }, kinds := [], alts := [], laidByText := true, laidKinds := [.data, .pinned], laidTests := true, laidLooks := .later }
def FreqNamesUptoCardSaid : Prop := Claim7.holds Tryz.pinned (.plain (OpenSpec.upto freqNamesSpec)) freqNamesUptoCard

/-- THE SECOND FORM's CARD OF 'tombolalaw10.FreqShares'. -/
def freqSharesUptoCard : Claim7 := { stood := { row := freqSharesUptoRow, standIns := [], harness := (true, "fbb075e61de1d1c89a2654dac794c5ce7ab1ef9c2c497e7369fdb918a5bbbdab"), looks := false }, kinds := [], alts := [], laidByText := true, laidKinds := [.data, .pinned], laidTests := true, laidLooks := .later }
def FreqSharesUptoCardSaid : Prop := Claim7.holds Tryz.pinned (.plain (OpenSpec.upto freqSharesSpec)) freqSharesUptoCard

/-- THE SECOND FORM's CARD OF 'tombolalaw10.FreqTimes'. -/
def freqTimesUptoCard : Claim7 := { stood := { row := freqTimesUptoRow, standIns := [], harness := (true, "fbb075e61de1d1c89a2654dac794c5ce7ab1ef9c2c497e7369fdb918a5bbbdab"), looks := false }, kinds := [], alts := [], laidByText := true, laidKinds := [.data, .pinned], laidTests := true, laidLooks := .later }
def FreqTimesUptoCardSaid : Prop := Claim7.holds Tryz.pinned (.plain (OpenSpec.upto freqTimesSpec)) freqTimesUptoCard

/-- THE SECOND FORM's CARD OF 'tombolalaw10.FreqParted'. -/
def freqPartedUptoCard : Claim7 := { stood := { row := freqPartedUptoRow, standIns := [], harness := (true, "fbb075e61de1d1c89a2654dac794c5ce7ab1ef9c2c497e7369fdb918a5bbbdab"), looks := false }, kinds := [], alts := [], laidByText := true, laidKinds := [.data, .pinned], laidTests := true, laidLooks := .later }
def FreqPartedUptoCardSaid : Prop := Claim7.holds Tryz.pinned (.plain (OpenSpec.upto freqPartedSpec)) freqPartedUptoCard

/-- THE SECOND FORM's CARD OF 'tombolalaw10.FreqCost'. -/
def freqCostUptoCard : Claim7 := { stood := { row := freqCostUptoRow, standIns := [], harness := (true, "fbb075e61de1d1c89a2654dac794c5ce7ab1ef9c2c497e7369fdb918a5bbbdab"), looks := false }, kinds := [], alts := [], laidByText := true, laidKinds := [.data, .pinned], laidTests := true, laidLooks := .later }
def FreqCostUptoCardSaid : Prop := Claim7.holds Tryz.pinned (.plain (OpenSpec.upto freqCostSpec)) freqCostUptoCard
end Rows
end Go.Proofs.YtolfjhfmcgibbaaGreatDoor
