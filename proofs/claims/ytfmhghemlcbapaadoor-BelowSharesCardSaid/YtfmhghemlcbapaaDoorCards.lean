/-
  DERIVED. GIVEN WITH THE SEED: THE CARDS: each row of YtfmhghemlcbapaaDoorRows.lean that lists a variable, with what it lists TIED to the program's text (the seventh form; the later family's looks); each row that meets fmt, with fmt's text TOLD by the authors' own Lean function (tested against real Go, not proved from fmt's source: count such statements apart). THE CARD IS WHAT COUNTS. Prove the row's statement (the work); the ties are given (YtfmhghemlcbapaaDoorTie.lean); close each card by the builder's one call (the guide's Derived/Test/ToyasCard.lean, 'card_holds'). Laid BY PROGRAM, IN A SANDBOX (cutbox-door.mjs). By AI agents, Wed Nov 11 2026. No macro, syntax, notation, axiom, sorry.
-/
import Derived.Test.YtfmhghemlcbapaaDoorRows
import GoSem.ClaimSeven
namespace Go.Proofs.YtfmhghemlcbapaaDoor
namespace Rows

/-- THE TIED CARD OF 'tombolalaw09.BelowDraws'. -/
def belowDrawsCard : Claim7 := { stood := { row := belowDrawsRow, standIns := [], harness := (true, "149202face10885c7b53da7a11e0fcfd76e7115ec116b810133f27f1efc83eb7"), looks := false }, kinds := [], alts := [], laidByText := true, laidKinds := [.data, .pinned], laidTests := true, laidLooks := .later }
def BelowDrawsCardSaid : Prop := Claim7.holds Tryd.pinned (.plain (OpenSpec.ofChange belowDrawsSpec)) belowDrawsCard

/-- THE TIED CARD OF 'tombolalaw09.BelowShares'. -/
def belowSharesCard : Claim7 := { stood := { row := belowSharesRow, standIns := [], harness := (true, "149202face10885c7b53da7a11e0fcfd76e7115ec116b810133f27f1efc83eb7"), looks := false }, kinds := [], alts := [], laidByText := true, laidKinds := [.data, .pinned], laidTests := true, laidLooks := .later }
def BelowSharesCardSaid : Prop := Claim7.holds Tryd.pinned (.plain (OpenSpec.ofChange belowSharesSpec)) belowSharesCard

/-- THE TIED CARD OF 'tombolalaw09.BelowTries'. -/
def belowTriesCard : Claim7 := { stood := { row := belowTriesRow, standIns := [], harness := (true, "149202face10885c7b53da7a11e0fcfd76e7115ec116b810133f27f1efc83eb7"), looks := false }, kinds := [], alts := [], laidByText := true, laidKinds := [.data, .pinned], laidTests := true, laidLooks := .later }
def BelowTriesCardSaid : Prop := Claim7.holds Tryd.pinned (.plain (OpenSpec.ofChange belowTriesSpec)) belowTriesCard

/-- THE TIED CARD OF 'tombolalaw09.BelowFront'. -/
def belowFrontCard : Claim7 := { stood := { row := belowFrontRow, standIns := [], harness := (true, "149202face10885c7b53da7a11e0fcfd76e7115ec116b810133f27f1efc83eb7"), looks := false }, kinds := [], alts := [], laidByText := true, laidKinds := [.data, .pinned], laidTests := true, laidLooks := .later }
def BelowFrontCardSaid : Prop := Claim7.holds Tryd.pinned (.plain (OpenSpec.ofChange belowFrontSpec)) belowFrontCard

/-- THE SECOND FORM's CARD OF 'tombolalaw09.BelowDraws'. -/
def belowDrawsUptoCard : Claim7 := { stood := { row := belowDrawsUptoRow, standIns := [], harness := (true, "149202face10885c7b53da7a11e0fcfd76e7115ec116b810133f27f1efc83eb7"), looks := false }, kinds := [], alts := [], laidByText := true, laidKinds := [.data, .pinned], laidTests := true, laidLooks := .later }
def BelowDrawsUptoCardSaid : Prop := Claim7.holds Tryd.pinned (.plain (OpenSpec.upto belowDrawsSpec)) belowDrawsUptoCard

/-- THE SECOND FORM's CARD OF 'tombolalaw09.BelowShares'. -/
def belowSharesUptoCard : Claim7 := { stood := { row := belowSharesUptoRow, standIns := [], harness := (true, "149202face10885c7b53da7a11e0fcfd76e7115ec116b810133f27f1efc83eb7"), looks := false }, kinds := [], alts := [], laidByText := true, laidKinds := [.data, .pinned], laidTests := true, laidLooks := .later }
def BelowSharesUptoCardSaid : Prop := Claim7.holds Tryd.pinned (.plain (OpenSpec.upto belowSharesSpec)) belowSharesUptoCard

/-- THE SECOND FORM's CARD OF 'tombolalaw09.BelowTries'. -/
def belowTriesUptoCard : Claim7 := { stood := { row := belowTriesUptoRow, standIns := [], harness := (true, "149202face10885c7b53da7a11e0fcfd76e7115ec116b810133f27f1efc83eb7"), looks := false }, kinds := [], alts := [], laidByText := true, laidKinds := [.data, .pinned], laidTests := true, laidLooks := .later }
def BelowTriesUptoCardSaid : Prop := Claim7.holds Tryd.pinned (.plain (OpenSpec.upto belowTriesSpec)) belowTriesUptoCard

/-- THE SECOND FORM's CARD OF 'tombolalaw09.BelowFront'. -/
def belowFrontUptoCard : Claim7 := { stood := { row := belowFrontUptoRow, standIns := [], harness := (true, "149202face10885c7b53da7a11e0fcfd76e7115ec116b810133f27f1efc83eb7"), looks := false }, kinds := [], alts := [], laidByText := true, laidKinds := [.data, .pinned], laidTests := true, laidLooks := .later }
def BelowFrontUptoCardSaid : Prop := Claim7.holds Tryd.pinned (.plain (OpenSpec.upto belowFrontSpec)) belowFrontUptoCard
end Rows
end Go.Proofs.YtfmhghemlcbapaaDoor
