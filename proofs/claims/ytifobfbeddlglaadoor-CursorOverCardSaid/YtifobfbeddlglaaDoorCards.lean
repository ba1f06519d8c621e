/-
  DERIVED. GIVEN WITH THE SEED: THE CARDS: each row of YtifobfbeddlglaaDoorRows.lean that lists a variable, with what it lists TIED to the program's text (the seventh form; the later family's looks); each row that meets fmt, with fmt's text TOLD by the authors' own Lean function (tested against real Go, not proved from fmt's source: count such statements apart). THE CARD IS WHAT COUNTS. Prove the row's statement (the work); the ties are given (YtifobfbeddlglaaDoorTie.lean); close each card by the builder's one call (the guide's Derived/Test/ToyasCard.lean, 'card_holds'). Laid BY PROGRAM, IN A SANDBOX (cutbox-door.mjs). By AI agents, Wed Nov 11 2026. No macro, syntax, notation, axiom, sorry.
-/
import Derived.Test.YtifobfbeddlglaaDoorRows
import GoSem.ClaimSeven
namespace Go.Proofs.YtifobfbeddlglaaDoor
namespace Rows

/-- THE TIED CARD OF 'tombolalaw08.CursorReads'. -/
def cursorReadsCard : Claim7 := { stood := { row := cursorReadsRow, standIns := [], harness := (true, "a966d93d34a24f5f5d8af044cf01270942f232857c4c32f1fd0fba271be84292"), looks := false }, kinds := [], alts := [], laidByText := true, laidKinds := [.data, .pinned], laidTests := true, laidLooks := .later }
def CursorReadsCardSaid : Prop := Claim7.holds Tryd.pinned (.plain (OpenSpec.ofChange cursorReadsSpec)) cursorReadsCard

/-- THE TIED CARD OF 'tombolalaw08.CursorNames'. -/
def cursorNamesCard : Claim7 := { stood := { row := cursorNamesRow, standIns := [], harness := (true, "a966d93d34a24f5f5d8af044cf01270942f232857c4c32f1fd0fba271be84292"), looks := false }, kinds := [], alts := [], laidByText := true, laidKinds := [.data, .pinned], laidTests := true, laidLooks := .later }
def CursorNamesCardSaid : Prop := Claim7.holds Tryd.pinned (.plain (OpenSpec.ofChange cursorNamesSpec)) cursorNamesCard

/-- THE TIED CARD OF 'tombolalaw08.CursorJoins'. -/
def cursorJoinsCard : Claim7 := { stood := { row := cursorJoinsRow, standIns := [], harness := (true, "a966d93d34a24f5f5d8af044cf01270942f232857c4c32f1fd0fba271be84292"), looks := false }, kinds := [], alts := [], laidByText := true, laidKinds := [.data, .pinned], laidTests := true, laidLooks := .later }
def CursorJoinsCardSaid : Prop := Claim7.holds Tryd.pinned (.plain (OpenSpec.ofChange cursorJoinsSpec)) cursorJoinsCard

/-- THE TIED CARD OF 'tombolalaw08.CursorBehind'. -/
def cursorBehindCard : Claim7 := { stood := { row := cursorBehindRow, standIns := [], harness := (true, "a966d93d34a24f5f5d8af044cf01270942f232857c4c32f1fd0fba271be84292"), looks := false }, kinds := [], alts := [], laidByText := true, laidKinds := [.data, .pinned], laidTests := true, laidLooks := .later }
def CursorBehindCardSaid : Prop := Claim7.holds Tryd.pinned (.plain (OpenSpec.ofChange cursorBehindSpec)) cursorBehindCard

/-- THE TIED CARD OF 'tombolalaw08.CursorOver'. -/
def cursorOverCard : Claim7 := { stood := { row := cursorOverRow, standIns := [], harness := (true, "a966d93d34a24f5f5d8af044cf01270942f232857c4c32f1fd0fba271be84292"), looks := false }, kinds := [], alts := [], laidByText := true, laidKinds := [.data, .pinned], laidTests := true, laidLooks := .later }
def CursorOverCardSaid : Prop := Claim7.holds Tryd.pinned (.plain (OpenSpec.ofChange cursorOverSpec)) cursorOverCard

/-- THE TIED CARD OF 'tombolalaw08.CursorApart'. -/
def cursorApartCard : Claim7 := { stood := { row := cursorApartRow, standIns := [], harness := (true, "a966d93d34a24f5f5d8af044cf01270942f232857c4c32f1fd0fba271be84292"), looks := false }, kinds := [], alts := [], laidByText := true, laidKinds := [.data, .pinned], laidTests := true, laidLooks := .later }
def CursorApartCardSaid : Prop := Claim7.holds Tryd.pinned (.plain (OpenSpec.ofChange cursorApartSpec)) cursorApartCard

/-- THE SECOND FORM's CARD OF 'tombolalaw08.CursorReads'. -/
def cursorReadsUptoCard : Claim7 := { stood := { row := cursorReadsUptoRow, standIns := [], harness := (true, "a966d93d34a24f5f5d8af044cf01270942f232857c4c32f1fd0fba271be84292"), looks := false }, kinds := [], alts := [], laidByText := true, laidKinds := [.data, .pinned], laidTests := true, laidLooks := .later }
def CursorReadsUptoCardSaid : Prop := Claim7.holds Tryd.pinned (.plain (OpenSpec.upto cursorReadsSpec)) cursorReadsUptoCard

/-- THE SECOND FORM's CARD OF 'tombolalaw08.CursorNames'. -/
def cursorNamesUptoCard : Claim7 := { stood := { row := cursorNamesUptoRow, standIns := [], harness := (true, "a966d93d34a24f5f5d8af044cf01270942f232857c4c32f1fd0fba271be84292"), looks := false }, kinds := [], alts := [], laidByText := true, laidKinds := [.data, .pinned], laidTests := true, laidLooks := .later }
def CursorNamesUptoCardSaid : Prop := Claim7.holds Tryd.pinned (.plain (OpenSpec.upto cursorNamesSpec)) cursorNamesUptoCard

/-- THE SECOND FORM's CARD OF 'tombolalaw08.CursorJoins'. -/
def cursorJoinsUptoCard : Claim7 := { stood := { row := cursorJoinsUptoRow, standIns := [], harness := (true, "a966d93d34a24f5f5d8af044cf01270942f232857c4c32f1fd0fba271be84292"), looks := false }, kinds := [], alts := [], laidByText := true, laidKinds := [.data, .pinned], laidTests := true, laidLooks := .later }
def CursorJoinsUptoCardSaid : Prop := Claim7.holds Tryd.pinned (.plain (OpenSpec.upto cursorJoinsSpec)) cursorJoinsUptoCard

/-- THE SECOND FORM's CARD OF 'tombolalaw08.CursorBehind'. -/
def cursorBehindUptoCard : Claim7 := { stood := { row := cursorBehindUptoRow, standIns := [], harness := (true, "a966d93d34a24f5f5d8af044cf01270942f232857c4c32f1fd0fba271be84292"), looks := false }, kinds := [], alts := [], laidByText := true, laidKinds := [.data, .pinned], laidTests := true, laidLooks := .later }
def CursorBehindUptoCardSaid : Prop := Claim7.holds Tryd.pinned (.plain (OpenSpec.upto cursorBehindSpec)) cursorBehindUptoCard

/-- THE SECOND FORM's CARD OF 'tombolalaw08.CursorOver'. -/
def cursorOverUptoCard : Claim7 := { stood := { row := cursorOverUptoRow, standIns := [], harness := (true, "a966d93d34a24f5f5d8af044cf01270942f232857c4c32f1fd0fba271be84292"), looks := false }, kinds := [], alts := [], laidByText := true, laidKinds := [.data, .pinned], laidTests := true, laidLooks := .later }
def CursorOverUptoCardSaid : Prop := Claim7.holds Tryd.pinned (.plain (OpenSpec.upto cursorOverSpec)) cursorOverUptoCard

/-- THE SECOND FORM's CARD OF 'tombolalaw08.CursorApart'. -/
def cursorApartUptoCard : Claim7 := { stood := { row := cursorApartUptoRow, standIns := [], harness := (true, "a966d93d34a24f5f5d8af044cf01270942f232857c4c32f1fd0fba271be84292"), looks := false }, kinds := [], alts := [], laidByText := true, laidKinds := [.data, .pinned], laidTests := true, laidLooks := .later }
def CursorApartUptoCardSaid : Prop := Claim7.holds Tryd.pinned (.plain (OpenSpec.upto cursorApartSpec)) cursorApartUptoCard
end Rows
end Go.Proofs.YtifobfbeddlglaaDoor
