/-
  DERIVED. GIVEN WITH THE SEED: THE CARDS: each row of YthlhnjjofefgcaaGreatDoorRows.lean that lists a variable, with what it lists TIED to the program's text (the seventh form; the later family's looks); each row that meets fmt, with fmt's text TOLD by the authors' own Lean function (tested against real Go, not proved from fmt's source: count such statements apart). THE CARD IS WHAT COUNTS. Prove the row's statement (the work); the ties are given (YthlhnjjofefgcaaGreatDoorTie.lean); close each card by the builder's one call (the guide's Derived/Test/ToyasCard.lean, 'card_holds'). Laid BY PROGRAM, IN A SANDBOX (cutbox-door.mjs). By AI agents, Wed Nov 11 2026. No macro, syntax, notation, axiom, sorry.
-/
import Derived.Test.YthlhnjjofefgcaaGreatDoorRows
import GoSem.ClaimSeven
namespace Go.Proofs.YthlhnjjofefgcaaGreatDoor
namespace Rows

/-- THE TIED CARD OF 'keywaylaw08.PagerPlays'. -/
def pagerPlaysCard : Claim7 := { stood := { row := pagerPlaysRow, standIns := [], harness := (true, "ce10d7285461b7ea8c1b557c437e9628036c0587b7cbd30b69b2b19b57ff98a4"), looks := false }, kinds := [], alts := [], laidByText := true, laidKinds := [.data], laidTests := true, laidLooks := .later }
def PagerPlaysCardSaid : Prop := Claim7.holds Tryz.pinned (.plain (OpenSpec.ofChange pagerPlaysSpec)) pagerPlaysCard

/-- THE TIED CARD OF 'keywaylaw08.PagerCuts'. -/
def pagerCutsCard : Claim7 := { stood := { row := pagerCutsRow, standIns := [], harness := (true, "ce10d7285461b7ea8c1b557c437e9628036c0587b7cbd30b69b2b19b57ff98a4"), looks := false }, kinds := [], alts := [], laidByText := true, laidKinds := [.data], laidTests := true, laidLooks := .later }
def PagerCutsCardSaid : Prop := Claim7.holds Tryz.pinned (.plain (OpenSpec.ofChange pagerCutsSpec)) pagerCutsCard

/-- THE TIED CARD OF 'keywaylaw08.PagerBlank'. -/
def pagerBlankCard : Claim7 := { stood := { row := pagerBlankRow, standIns := [], harness := (true, "ce10d7285461b7ea8c1b557c437e9628036c0587b7cbd30b69b2b19b57ff98a4"), looks := false }, kinds := [], alts := [], laidByText := true, laidKinds := [.data], laidTests := true, laidLooks := .later }
def PagerBlankCardSaid : Prop := Claim7.holds Tryz.pinned (.plain (OpenSpec.ofChange pagerBlankSpec)) pagerBlankCard

/-- THE TIED CARD OF 'keywaylaw08.PagerNone'. -/
def pagerNoneCard : Claim7 := { stood := { row := pagerNoneRow, standIns := [], harness := (true, "ce10d7285461b7ea8c1b557c437e9628036c0587b7cbd30b69b2b19b57ff98a4"), looks := false }, kinds := [], alts := [], laidByText := true, laidKinds := [.data], laidTests := true, laidLooks := .later }
def PagerNoneCardSaid : Prop := Claim7.holds Tryz.pinned (.plain (OpenSpec.ofChange pagerNoneSpec)) pagerNoneCard

/-- THE SECOND FORM's CARD OF 'keywaylaw08.PagerPlays'. -/
def pagerPlaysUptoCard : Claim7 := { stood := { row := pagerPlaysUptoRow, standIns := [], harness := (true, "ce10d7285461b7ea8c1b557c437e9628036c0587b7cbd30b69b2b19b57ff98a4"), looks := false }, kinds := [], alts := [], laidByText := true, laidKinds := [.data], laidTests := true, laidLooks := .later }
def PagerPlaysUptoCardSaid : Prop := Claim7.holds Tryz.pinned (.plain (OpenSpec.upto pagerPlaysSpec)) pagerPlaysUptoCard

/-- THE SECOND FORM's CARD OF 'keywaylaw08.PagerCuts'. -/
def pagerCutsUptoCard : Claim7 := { stood := { row := pagerCutsUptoRow, standIns := [], harness := (true, "ce10d7285461b7ea8c1b557c437e9628036c0587b7cbd30b69b2b19b57ff98a4"), looks := false }, kinds := [], alts := [], laidByText := true, laidKinds := [.data], laidTests := true, laidLooks := .later }
def PagerCutsUptoCardSaid : Prop := Claim7.holds Tryz.pinned (.plain (OpenSpec.upto pagerCutsSpec)) pagerCutsUptoCard

/-- THE SECOND FORM's CARD OF 'keywaylaw08.PagerBlank'. -/
def pagerBlankUptoCard : Claim7 := { stood := { row := pagerBlankUptoRow, standIns := [], harness := (true, "ce10d7285461b7ea8c1b557c437e9628036c0587b7cbd30b69b2b19b57ff98a4"), looks := false }, kinds := [], alts := [], laidByText := true, laidKinds := [.data], laidTests := true, laidLooks := .later }
def PagerBlankUptoCardSaid : Prop := Claim7.holds Tryz.pinned (.plain (OpenSpec.upto pagerBlankSpec)) pagerBlankUptoCard

/-- THE SECOND FORM's CARD OF 'keywaylaw08.PagerNone'. -/
def pagerNoneUptoCard : Claim7 := { stood := { row := pagerNoneUptoRow, standIns := [], harness := (true, "ce10d7285461b7ea8c1b557c437e9628036c0587b7cbd30b69b2b19b57ff98a4"), looks := false }, kinds := [], alts := [], laidByText := true, laidKinds := [.data], laidTests := true, laidLooks := .later }
def PagerNoneUptoCardSaid : Prop := Claim7.holds Tryz.pinned (.plain (OpenSpec.upto pagerNoneSpec)) pagerNoneUptoCard
end Rows
end Go.Proofs.YthlhnjjofefgcaaGreatDoor
