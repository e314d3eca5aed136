/-
  DERIVED. GIVEN WITH THE SEED: THE CARDS: each row of YtncfpjccfmolgaaGreatDoorRows.lean that lists a variable, with what it lists TIED to the program's text (the seventh form; the later family's looks); each row that meets fmt, with fmt's text TOLD by the authors' own Lean function (tested against real Go, not proved from fmt's source: count such statements apart). THE CARD IS WHAT COUNTS. Prove the row's statement (the work); the ties are given (YtncfpjccfmolgaaGreatDoorTie.lean); close each card by the builder's one call (the guide's Derived/Test/ToyasCard.lean, 'card_holds'). Laid BY PROGRAM, IN A SANDBOX (cutbox-door.mjs). By AI agents, Wed Nov 11 2026. No macro, syntax, notation, axiom, sorry.
-/
import Derived.Test.YtncfpjccfmolgaaGreatDoorRows
import GoSem.ClaimSeven
namespace Go.Proofs.YtncfpjccfmolgaaGreatDoor
namespace Rows

/-- THE TIED CARD OF 'keywaylaw10.BtreePlays'. -/
def btreePlaysCard : Claim7 := { stood := { row := btreePlaysRow, standIns := [], harness := (true, "94ae4658a6a2b3fef17e22dede76796da699350ac26b369d9c91178e9c708ee0"), looks := false }, kinds := [], alts := [], laidByText := true, laidKinds := [.data], laidTests := true, laidLooks := .later }
def BtreePlaysCardSaid : Prop := Claim7.holds Tryz.pinned (.plain (OpenSpec.ofChange btreePlaysSpec)) btreePlaysCard

/-- THE TIED CARD OF 'keywaylaw10.BtreeShape'. -/
def btreeShapeCard : Claim7 := { stood := { row := btreeShapeRow, standIns := [], harness := (true, "94ae4658a6a2b3fef17e22dede76796da699350ac26b369d9c91178e9c708ee0"), looks := false }, kinds := [], alts := [], laidByText := true, laidKinds := [.data], laidTests := true, laidLooks := .later }
def BtreeShapeCardSaid : Prop := Claim7.holds Tryz.pinned (.plain (OpenSpec.ofChange btreeShapeSpec)) btreeShapeCard

/-- THE TIED CARD OF 'keywaylaw10.BtreeEnds'. -/
def btreeEndsCard : Claim7 := { stood := { row := btreeEndsRow, standIns := [], harness := (true, "94ae4658a6a2b3fef17e22dede76796da699350ac26b369d9c91178e9c708ee0"), looks := false }, kinds := [], alts := [], laidByText := true, laidKinds := [.data], laidTests := true, laidLooks := .later }
def BtreeEndsCardSaid : Prop := Claim7.holds Tryz.pinned (.plain (OpenSpec.ofChange btreeEndsSpec)) btreeEndsCard

/-- THE TIED CARD OF 'keywaylaw10.BtreeFull'. -/
def btreeFullCard : Claim7 := { stood := { row := btreeFullRow, standIns := [], harness := (true, "94ae4658a6a2b3fef17e22dede76796da699350ac26b369d9c91178e9c708ee0"), looks := false }, kinds := [], alts := [], laidByText := true, laidKinds := [.data], laidTests := true, laidLooks := .later }
def BtreeFullCardSaid : Prop := Claim7.holds Tryz.pinned (.plain (OpenSpec.ofChange btreeFullSpec)) btreeFullCard

/-- THE TIED CARD OF 'keywaylaw10.BtreeNone'. -/
def btreeNoneCard : Claim7 := { stood := { row := btreeNoneRow, standIns := [], harness := (true, "94ae4658a6a2b3fef17e22dede76796da699350ac26b369d9c91178e9c708ee0"), looks := false }, kinds := [], alts := [], laidByText := true, laidKinds := [.data], laidTests := true, laidLooks := .later }
def BtreeNoneCardSaid : Prop := Claim7.holds Tryz.pinned (.plain (OpenSpec.ofChange btreeNoneSpec)) btreeNoneCard

/-- THE SECOND FORM's CARD OF 'keywaylaw10.BtreePlays'. -/
def btreePlaysUptoCard : Claim7 := { stood := { row := btreePlaysUptoRow, standIns := [], harness := (true, "94ae4658a6a2b3fef17e22dede76796da699350ac26b369d9c91178e9c708ee0"), looks := false }, kinds := [], alts := [], laidByText := true, laidKinds := [.data], laidTests := true, laidLooks := .later }
def BtreePlaysUptoCardSaid : Prop := Claim7.holds Tryz.pinned (.plain (OpenSpec.upto btreePlaysSpec)) btreePlaysUptoCard

/-- THE SECOND FORM's CARD OF 'keywaylaw10.BtreeShape'. -/
def btreeShapeUptoCard : Claim7 := { stood := { row := btreeShapeUptoRow, standIns := [], harness := (true, "94ae4658a6a2b3fef17e22dede76796da699350ac26b369d9c91178e9c708ee0"), looks := false }, kinds := [], alts := [], laidByText := true, laidKinds := [.data], laidTests := true, laidLooks := .later }
def BtreeShapeUptoCardSaid : Prop := Claim7.holds Tryz.pinned (.plain (OpenSpec.upto btreeShapeSpec)) btreeShapeUptoCard

/-- THE SECOND FORM's CARD OF 'keywaylaw10.BtreeEnds'. -/
def btreeEndsUptoCard : Claim7 := { stood := { row := btreeEndsUptoRow, standIns := [], harness := (true, "94ae4658a6a2b3fef17e22dede76796da699350ac26b369d9c91178e9c708ee0"), looks := false }, kinds := [], alts := [], laidByText := true, laidKinds := [.data], laidTests := true, laidLooks := .later }
def BtreeEndsUptoCardSaid : Prop := Claim7.holds Tryz.pinned (.plain (OpenSpec.upto btreeEndsSpec)) btreeEndsUptoCard

/-- THE SECOND FORM's CARD OF 'keywaylaw10.BtreeFull'. -/
def btreeFullUptoCard : Claim7 := { stood := { row := btreeFullUptoRow, standIns := [], harness := (true, "94ae4658a6a2b3fef17e22dede76796da699350ac26b369d9c91178e9c708ee0"), looks := false }, kinds := [], alts := [], laidByText := true, laidKinds := [.data], laidTests := true, laidLooks := .later }
def BtreeFullUptoCardSaid : Prop := Claim7.holds Tryz.pinned (.plain (OpenSpec.upto btreeFullSpec)) btreeFullUptoCard

/-- THE SECOND FORM's CARD OF 'keywaylaw10.BtreeNone'. -/
def btreeNoneUptoCard : Claim7 := { stood := { row := btreeNoneUptoRow, standIns := [], harness := (true, "94ae4658a6a2b3fef17e22dede76796da699350ac26b369d9c91178e9c708ee0"), looks := false }, kinds := [], alts := [], laidByText := true, laidKinds := [.data], laidTests := true, laidLooks := .later }
def BtreeNoneUptoCardSaid : Prop := Claim7.holds Tryz.pinned (.plain (OpenSpec.upto btreeNoneSpec)) btreeNoneUptoCard
end Rows
end Go.Proofs.YtncfpjccfmolgaaGreatDoor
