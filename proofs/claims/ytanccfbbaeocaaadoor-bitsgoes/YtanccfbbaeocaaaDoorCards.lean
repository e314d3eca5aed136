/-
  DERIVED. GIVEN WITH THE SEED: THE CARDS: each row of YtanccfbbaeocaaaDoorRows.lean that lists a variable, with what it lists TIED to the program's text (the seventh form; the later family's looks); each row that meets fmt, with fmt's text TOLD by the authors' own Lean function (tested against real Go, not proved from fmt's source: count such statements apart). THE CARD IS WHAT COUNTS. Prove the row's statement (the work); the ties are given (YtanccfbbaeocaaaDoorTie.lean); close each card by the builder's one call (the guide's Derived/Test/ToyasCard.lean, 'card_holds'). Laid BY PROGRAM, IN A SANDBOX (cutbox-door.mjs). By AI agents, Wed Nov 11 2026. No macro, syntax, notation, axiom, sorry.
-/
import Derived.Test.YtanccfbbaeocaaaDoorRows
import GoSem.ClaimSeven
namespace Go.Proofs.YtanccfbbaeocaaaDoor
namespace Rows

/-- THE TIED CARD OF 'keywaylaw14.BitsOps'. -/
def bitsOpsCard : Claim7 := { stood := { row := bitsOpsRow, standIns := [], harness := (true, "211d7bd383aa64b17da0a87df99ef1dd22530c0c4d48b88ff1d360fd0931fe9f"), looks := false }, kinds := [], alts := [], laidByText := true, laidKinds := [.data], laidTests := true, laidLooks := .later }
def BitsOpsCardSaid : Prop := Claim7.holds Tryd.pinned (.plain (OpenSpec.ofChange bitsOpsSpec)) bitsOpsCard

/-- THE TIED CARD OF 'keywaylaw14.BitsHas'. -/
def bitsHasCard : Claim7 := { stood := { row := bitsHasRow, standIns := [], harness := (true, "211d7bd383aa64b17da0a87df99ef1dd22530c0c4d48b88ff1d360fd0931fe9f"), looks := false }, kinds := [], alts := [], laidByText := true, laidKinds := [.data], laidTests := true, laidLooks := .later }
def BitsHasCardSaid : Prop := Claim7.holds Tryd.pinned (.plain (OpenSpec.ofChange bitsHasSpec)) bitsHasCard

/-- THE TIED CARD OF 'keywaylaw14.BitsGoes'. -/
def bitsGoesCard : Claim7 := { stood := { row := bitsGoesRow, standIns := [], harness := (true, "211d7bd383aa64b17da0a87df99ef1dd22530c0c4d48b88ff1d360fd0931fe9f"), looks := false }, kinds := [], alts := [], laidByText := true, laidKinds := [.data], laidTests := true, laidLooks := .later }
def BitsGoesCardSaid : Prop := Claim7.holds Tryd.pinned (.plain (OpenSpec.ofChange bitsGoesSpec)) bitsGoesCard

/-- THE SECOND FORM's CARD OF 'keywaylaw14.BitsOps'. -/
def bitsOpsUptoCard : Claim7 := { stood := { row := bitsOpsUptoRow, standIns := [], harness := (true, "211d7bd383aa64b17da0a87df99ef1dd22530c0c4d48b88ff1d360fd0931fe9f"), looks := false }, kinds := [], alts := [], laidByText := true, laidKinds := [.data], laidTests := true, laidLooks := .later }
def BitsOpsUptoCardSaid : Prop := Claim7.holds Tryd.pinned (.plain (OpenSpec.upto bitsOpsSpec)) bitsOpsUptoCard

/-- THE SECOND FORM's CARD OF 'keywaylaw14.BitsHas'. -/
def bitsHasUptoCard : Claim7 := { stood := { row := bitsHasUptoRow, standIns := [], harness := (true, "211d7bd383aa64b17da0a87df99ef1dd22530c0c4d48b88ff1d360fd0931fe9f"), looks := false }, kinds := [], alts := [], laidByText := true, laidKinds := [.data], laidTests := true, laidLooks := .later }
def BitsHasUptoCardSaid : Prop := Claim7.holds Tryd.pinned (.plain (OpenSpec.upto bitsHasSpec)) bitsHasUptoCard

/-- THE SECOND FORM's CARD OF 'keywaylaw14.BitsGoes'. -/
def bitsGoesUptoCard : Claim7 := { stood := { row := bitsGoesUptoRow, standIns := [], harness := (true, "211d7bd383aa64b17da0a87df99ef1dd22530c0c4d48b88ff1d360fd0931fe9f"), looks := false }, kinds := [], alts := [], laidByText := true, laidKinds := [.data], laidTests := true, laidLooks := .later }
def BitsGoesUptoCardSaid : Prop := Claim7.holds Tryd.pinned (.plain (OpenSpec.upto bitsGoesSpec)) bitsGoesUptoCard
end Rows
end Go.Proofs.YtanccfbbaeocaaaDoor
