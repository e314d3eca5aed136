/-
  DERIVED. GIVEN WITH THE SEED: THE CARDS: each row of YtafgecaeiodmiaaGreatDoorRows.lean that lists a variable, with what it lists TIED to the program's text (the seventh form; the later family's looks); each row that meets fmt, with fmt's text TOLD by the authors' own Lean function (tested against real Go, not proved from fmt's source: count such statements apart). THE CARD IS WHAT COUNTS. Prove the row's statement (the work); the ties are given (YtafgecaeiodmiaaGreatDoorTie.lean); close each card by the builder's one call (the guide's Derived/Test/ToyasCard.lean, 'card_holds'). Laid BY PROGRAM, IN A SANDBOX (cutbox-door.mjs). By AI agents, Wed Nov 11 2026. No macro, syntax, notation, axiom, sorry.
-/
import Derived.Test.YtafgecaeiodmiaaGreatDoorRows
import GoSem.ClaimSeven
namespace Go.Proofs.YtafgecaeiodmiaaGreatDoor
namespace Rows

/-- THE TIED CARD OF 'keywaylaw11.CursorRanges'. -/
def cursorRangesCard : Claim7 := { stood := { row := cursorRangesRow, standIns := [], harness := (true, "005c051824a96763f9680b7d1446ad34a89ad309f945077947870abb8fcaee26"), looks := false }, kinds := [], alts := [], laidByText := true, laidKinds := [.data], laidTests := true, laidLooks := .later }
def CursorRangesCardSaid : Prop := Claim7.holds Tryz.pinned (.plain (OpenSpec.ofChange cursorRangesSpec)) cursorRangesCard

/-- THE TIED CARD OF 'keywaylaw11.CursorNext'. -/
def cursorNextCard : Claim7 := { stood := { row := cursorNextRow, standIns := [], harness := (true, "005c051824a96763f9680b7d1446ad34a89ad309f945077947870abb8fcaee26"), looks := false }, kinds := [], alts := [], laidByText := true, laidKinds := [.data], laidTests := true, laidLooks := .later }
def CursorNextCardSaid : Prop := Claim7.holds Tryz.pinned (.plain (OpenSpec.ofChange cursorNextSpec)) cursorNextCard

/-- THE TIED CARD OF 'keywaylaw11.CursorStops'. -/
def cursorStopsCard : Claim7 := { stood := { row := cursorStopsRow, standIns := [], harness := (true, "005c051824a96763f9680b7d1446ad34a89ad309f945077947870abb8fcaee26"), looks := false }, kinds := [], alts := [], laidByText := true, laidKinds := [.data], laidTests := true, laidLooks := .later }
def CursorStopsCardSaid : Prop := Claim7.holds Tryz.pinned (.plain (OpenSpec.ofChange cursorStopsSpec)) cursorStopsCard

/-- THE TIED CARD OF 'keywaylaw11.CursorPages'. -/
def cursorPagesCard : Claim7 := { stood := { row := cursorPagesRow, standIns := [], harness := (true, "005c051824a96763f9680b7d1446ad34a89ad309f945077947870abb8fcaee26"), looks := false }, kinds := [], alts := [], laidByText := true, laidKinds := [.data], laidTests := true, laidLooks := .later }
def CursorPagesCardSaid : Prop := Claim7.holds Tryz.pinned (.plain (OpenSpec.ofChange cursorPagesSpec)) cursorPagesCard

/-- THE TIED CARD OF 'keywaylaw11.CursorNone'. -/
def cursorNoneCard : Claim7 := { stood := { row := cursorNoneRow, standIns := [], harness := (true, "005c051824a96763f9680b7d1446ad34a89ad309f945077947870abb8fcaee26"), looks := false }, kinds := [], alts := [], laidByText := true, laidKinds := [.data], laidTests := true, laidLooks := .later }
def CursorNoneCardSaid : Prop := Claim7.holds Tryz.pinned (.plain (OpenSpec.ofChange cursorNoneSpec)) cursorNoneCard

/-- THE SECOND FORM's CARD OF 'keywaylaw11.CursorRanges'. -/
def cursorRangesUptoCard : Claim7 := { stood := { row := cursorRangesUptoRow, standIns := [], harness := (true, "005c051824a96763f9680b7d1446ad34a89ad309f945077947870abb8fcaee26"), looks := false }, kinds := [], alts := [], laidByText := true, laidKinds := [.data], laidTests := true, laidLooks := .later }
def CursorRangesUptoCardSaid : Prop := Claim7.holds Tryz.pinned (.plain (OpenSpec.upto cursorRangesSpec)) cursorRangesUptoCard

/-- THE SECOND FORM's CARD OF 'keywaylaw11.CursorNext'. -/
def cursorNextUptoCard : Claim7 := { stood := { row := cursorNextUptoRow, standIns := [], harness := (true, "005c051824a96763f9680b7d1446ad34a89ad309f945077947870abb8fcaee26"), looks := false }, kinds := [], alts := [], laidByText := true, laidKinds := [.data], laidTests := true, laidLooks := .later }
def CursorNextUptoCardSaid : Prop := Claim7.holds Tryz.pinned (.plain (OpenSpec.upto cursorNextSpec)) cursorNextUptoCard

/-- THE SECOND FORM's CARD OF 'keywaylaw11.CursorStops'. -/
def cursorStopsUptoCard : Claim7 := { stood := { row := cursorStopsUptoRow, standIns := [], harness := (true, "005c051824a96763f9680b7d1446ad34a89ad309f945077947870abb8fcaee26"), looks := false }, kinds := [], alts := [], laidByText := true, laidKinds := [.data], laidTests := true, laidLooks := .later }
def CursorStopsUptoCardSaid : Prop := Claim7.holds Tryz.pinned (.plain (OpenSpec.upto cursorStopsSpec)) cursorStopsUptoCard

/-- THE SECOND FORM's CARD OF 'keywaylaw11.CursorPages'. -/
def cursorPagesUptoCard : Claim7 := { stood := { row := cursorPagesUptoRow, standIns := [], harness := (true, "005c051824a96763f9680b7d1446ad34a89ad309f945077947870abb8fcaee26"), looks := false }, kinds := [], alts := [], laidByText := true, laidKinds := [.data], laidTests := true, laidLooks := .later }
def CursorPagesUptoCardSaid : Prop := Claim7.holds Tryz.pinned (.plain (OpenSpec.upto cursorPagesSpec)) cursorPagesUptoCard

/-- THE SECOND FORM's CARD OF 'keywaylaw11.CursorNone'. -/
def cursorNoneUptoCard : Claim7 := { stood := { row := cursorNoneUptoRow, standIns := [], harness := (true, "005c051824a96763f9680b7d1446ad34a89ad309f945077947870abb8fcaee26"), looks := false }, kinds := [], alts := [], laidByText := true, laidKinds := [.data], laidTests := true, laidLooks := .later }
def CursorNoneUptoCardSaid : Prop := Claim7.holds Tryz.pinned (.plain (OpenSpec.upto cursorNoneSpec)) cursorNoneUptoCard
end Rows
end Go.Proofs.YtafgecaeiodmiaaGreatDoor
