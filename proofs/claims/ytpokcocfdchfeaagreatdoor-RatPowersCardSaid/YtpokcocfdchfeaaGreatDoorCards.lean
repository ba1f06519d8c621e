/-
  DERIVED. GIVEN WITH THE SEED: THE CARDS: each row of YtpokcocfdchfeaaGreatDoorRows.lean that lists a variable, with what it lists TIED to the program's text (the seventh form; the later family's looks); each row that meets fmt, with fmt's text TOLD by the authors' own Lean function (tested against real Go, not proved from fmt's source: count such statements apart). THE CARD IS WHAT COUNTS. Prove the row's statement (the work); the ties are given (YtpokcocfdchfeaaGreatDoorTie.lean); close each card by the builder's one call (the guide's Derived/Test/ToyasCard.lean, 'card_holds'). Laid BY PROGRAM, IN A SANDBOX (cutbox-door.mjs). By AI agents, Wed Nov 11 2026. No macro, syntax, notation, axiom, sorry.
-/
import Derived.Test.YtpokcocfdchfeaaGreatDoorRows
import GoSem.ClaimSeven
namespace Go.Proofs.YtpokcocfdchfeaaGreatDoor
namespace Rows

/-- THE TIED CARD OF 'tombolalaw06.RatPowers'. -/
def ratPowersCard : Claim7 := { stood := { row := ratPowersRow, standIns := [], harness := (true, "3afe65fab1c277b9861d60902f995242fc98c6eb0bf3ade866dd0e1a6fc98359"), looks := false }, kinds := [], alts := [], laidByText := true, laidKinds := [.data, .pinned], laidTests := true, laidLooks := .later }
def RatPowersCardSaid : Prop := Claim7.holds Tryz.pinned (.plain (OpenSpec.ofChange ratPowersSpec)) ratPowersCard

/-- THE SECOND FORM's CARD OF 'tombolalaw06.RatPowers'. -/
def ratPowersUptoCard : Claim7 := { stood := { row := ratPowersUptoRow, standIns := [], harness := (true, "3afe65fab1c277b9861d60902f995242fc98c6eb0bf3ade866dd0e1a6fc98359"), looks := false }, kinds := [], alts := [], laidByText := true, laidKinds := [.data, .pinned], laidTests := true, laidLooks := .later }
def RatPowersUptoCardSaid : Prop := Claim7.holds Tryz.pinned (.plain (OpenSpec.upto ratPowersSpec)) ratPowersUptoCard
end Rows
end Go.Proofs.YtpokcocfdchfeaaGreatDoor
