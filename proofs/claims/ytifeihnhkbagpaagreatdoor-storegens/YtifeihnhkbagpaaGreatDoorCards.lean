/-
  DERIVED. GIVEN WITH THE SEED: THE CARDS: each row of YtifeihnhkbagpaaGreatDoorRows.lean that lists a variable, with what it lists TIED to the program's text (the seventh form; the later family's looks); each row that meets fmt, with fmt's text TOLD by the authors' own Lean function (tested against real Go, not proved from fmt's source: count such statements apart). THE CARD IS WHAT COUNTS. Prove the row's statement (the work); the ties are given (YtifeihnhkbagpaaGreatDoorTie.lean); close each card by the builder's one call (the guide's Derived/Test/ToyasCard.lean, 'card_holds'). Laid BY PROGRAM, IN A SANDBOX (cutbox-door.mjs). By AI agents, Wed Nov 11 2026. No macro, syntax, notation, axiom, sorry.
-/
import Derived.Test.YtifeihnhkbagpaaGreatDoorRows
import GoSem.ClaimSeven
namespace Go.Proofs.YtifeihnhkbagpaaGreatDoor
namespace Rows

/-- THE TIED CARD OF 'keywaylaw13.StorePlays'. -/
def storePlaysCard : Claim7 := { stood := { row := storePlaysRow, standIns := [], harness := (true, "35cd78c4ca5308df2dcd4fbdb9dc0314cda0848f9d77a4ad0c94a2abeada599e"), looks := false }, kinds := [], alts := [], laidByText := true, laidKinds := [.data], laidTests := true, laidLooks := .later }
def StorePlaysCardSaid : Prop := Claim7.holds Tryz.pinned (.plain (OpenSpec.ofChange storePlaysSpec)) storePlaysCard

/-- THE TIED CARD OF 'keywaylaw13.StoreCuts'. -/
def storeCutsCard : Claim7 := { stood := { row := storeCutsRow, standIns := [], harness := (true, "35cd78c4ca5308df2dcd4fbdb9dc0314cda0848f9d77a4ad0c94a2abeada599e"), looks := false }, kinds := [], alts := [], laidByText := true, laidKinds := [.data], laidTests := true, laidLooks := .later }
def StoreCutsCardSaid : Prop := Claim7.holds Tryz.pinned (.plain (OpenSpec.ofChange storeCutsSpec)) storeCutsCard

/-- THE TIED CARD OF 'keywaylaw13.StoreFull'. -/
def storeFullCard : Claim7 := { stood := { row := storeFullRow, standIns := [], harness := (true, "35cd78c4ca5308df2dcd4fbdb9dc0314cda0848f9d77a4ad0c94a2abeada599e"), looks := false }, kinds := [], alts := [], laidByText := true, laidKinds := [.data], laidTests := true, laidLooks := .later }
def StoreFullCardSaid : Prop := Claim7.holds Tryz.pinned (.plain (OpenSpec.ofChange storeFullSpec)) storeFullCard

/-- THE TIED CARD OF 'keywaylaw13.StoreGens'. -/
def storeGensCard : Claim7 := { stood := { row := storeGensRow, standIns := [], harness := (true, "35cd78c4ca5308df2dcd4fbdb9dc0314cda0848f9d77a4ad0c94a2abeada599e"), looks := false }, kinds := [], alts := [], laidByText := true, laidKinds := [.data], laidTests := true, laidLooks := .later }
def StoreGensCardSaid : Prop := Claim7.holds Tryz.pinned (.plain (OpenSpec.ofChange storeGensSpec)) storeGensCard

/-- THE TIED CARD OF 'keywaylaw13.StoreNone'. -/
def storeNoneCard : Claim7 := { stood := { row := storeNoneRow, standIns := [], harness := (true, "35cd78c4ca5308df2dcd4fbdb9dc0314cda0848f9d77a4ad0c94a2abeada599e"), looks := false }, kinds := [], alts := [], laidByText := true, laidKinds := [.data], laidTests := true, laidLooks := .later }
def StoreNoneCardSaid : Prop := Claim7.holds Tryz.pinned (.plain (OpenSpec.ofChange storeNoneSpec)) storeNoneCard

/-- THE SECOND FORM's CARD OF 'keywaylaw13.StorePlays'. -/
def storePlaysUptoCard : Claim7 := { stood := { row := storePlaysUptoRow, standIns := [], harness := (true, "35cd78c4ca5308df2dcd4fbdb9dc0314cda0848f9d77a4ad0c94a2abeada599e"), looks := false }, kinds := [], alts := [], laidByText := true, laidKinds := [.data], laidTests := true, laidLooks := .later }
def StorePlaysUptoCardSaid : Prop := Claim7.holds Tryz.pinned (.plain (OpenSpec.upto storePlaysSpec)) storePlaysUptoCard

/-- THE SECOND FORM's CARD OF 'keywaylaw13.StoreCuts'. -/
def storeCutsUptoCard : Claim7 := { stood := { row := storeCutsUptoRow, standIns := [], harness := (true, "35cd78c4ca5308df2dcd4fbdb9dc0314cda0848f9d77a4ad0c94a2abeada599e"), looks := false }, kinds := [], alts := [], laidByText := true, laidKinds := [.data], laidTests := true, laidLooks := .later }
def StoreCutsUptoCardSaid : Prop := Claim7.holds Tryz.pinned (.plain (OpenSpec.upto storeCutsSpec)) storeCutsUptoCard

/-- THE SECOND FORM's CARD OF 'keywaylaw13.StoreFull'. -/
def storeFullUptoCard : Claim7 := { stood := { row := storeFullUptoRow, standIns := [], harness := (true, "35cd78c4ca5308df2dcd4fbdb9dc0314cda0848f9d77a4ad0c94a2abeada599e"), looks := false }, kinds := [], alts := [], laidByText := true, laidKinds := [.data], laidTests := true, laidLooks := .later }
def StoreFullUptoCardSaid : Prop := Claim7.holds Tryz.pinned (.plain (OpenSpec.upto storeFullSpec)) storeFullUptoCard

/-- THE SECOND FORM's CARD OF 'keywaylaw13.StoreGens'. -/
def storeGensUptoCard : Claim7 := { stood := { row := storeGensUptoRow, standIns := [], harness := (true, "35cd78c4ca5308df2dcd4fbdb9dc0314cda0848f9d77a4ad0c94a2abeada599e"), looks := false }, kinds := [], alts := [], laidByText := true, laidKinds := [.data], laidTests := true, laidLooks := .later }
def StoreGensUptoCardSaid : Prop := Claim7.holds Tryz.pinned (.plain (OpenSpec.upto storeGensSpec)) storeGensUptoCard

/-- THE SECOND FORM's CARD OF 'keywaylaw13.StoreNone'. -/
def storeNoneUptoCard : Claim7 := { stood := { row := storeNoneUptoRow, standIns := [], harness := (true, "35cd78c4ca5308df2dcd4fbdb9dc0314cda0848f9d77a4ad0c94a2abeada599e"), looks := false }, kinds := [], alts := [], laidByText := true, laidKinds := [.data], laidTests := true, laidLooks := .later }
def StoreNoneUptoCardSaid : Prop := Claim7.holds Tryz.pinned (.plain (OpenSpec.upto storeNoneSpec)) storeNoneUptoCard
end Rows
end Go.Proofs.YtifeihnhkbagpaaGreatDoor
