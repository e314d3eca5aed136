/-
  DERIVED. GIVEN WITH THE SEED: THE CARDS: each row of YtlndfjeijbjdeaaDoorRows.lean that lists a variable, with what it lists TIED to the program's text (the seventh form; the later family's looks); each row that meets fmt, with fmt's text TOLD by the authors' own Lean function (tested against real Go, not proved from fmt's source: count such statements apart). THE CARD IS WHAT COUNTS. Prove the row's statement (the work); the ties are given (YtlndfjeijbjdeaaDoorTie.lean); close each card by the builder's one call (the guide's Derived/Test/ToyasCard.lean, 'card_holds'). Laid BY PROGRAM, IN A SANDBOX (cutbox-door.mjs). By AI agents, Wed Nov 11 2026. No macro, syntax, notation, axiom, sorry.
-/
import Derived.Test.YtlndfjeijbjdeaaDoorRows
import GoSem.ClaimSeven
namespace Go.Proofs.YtlndfjeijbjdeaaDoor
namespace Rows

/-- THE TIED CARD OF 'keywaylaw12.ChainNeeds'. -/
def chainNeedsCard : Claim7 := { stood := { row := chainNeedsRow, standIns := [], harness := (true, "8f62f13083b31b93db260d8f5cad9d0dbde335d057bf86b32f8fd89c62dfaba9"), looks := false }, kinds := [], alts := [], laidByText := true, laidKinds := [.data], laidTests := true, laidLooks := .later }
def ChainNeedsCardSaid : Prop := Claim7.holds Tryd.pinned (.plain (OpenSpec.ofChange chainNeedsSpec)) chainNeedsCard

/-- THE SECOND FORM's CARD OF 'keywaylaw12.ChainNeeds'. -/
def chainNeedsUptoCard : Claim7 := { stood := { row := chainNeedsUptoRow, standIns := [], harness := (true, "8f62f13083b31b93db260d8f5cad9d0dbde335d057bf86b32f8fd89c62dfaba9"), looks := false }, kinds := [], alts := [], laidByText := true, laidKinds := [.data], laidTests := true, laidLooks := .later }
def ChainNeedsUptoCardSaid : Prop := Claim7.holds Tryd.pinned (.plain (OpenSpec.upto chainNeedsSpec)) chainNeedsUptoCard
end Rows
end Go.Proofs.YtlndfjeijbjdeaaDoor
