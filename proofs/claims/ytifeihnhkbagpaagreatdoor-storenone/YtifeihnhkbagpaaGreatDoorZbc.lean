/- Joined: NPB. What is proved of the functions beneath StoreNone. Conditions: those that each row names. -/
import Derived.Test.YtifeihnhkbagpaaGreatDoorZav
import Derived.Shelf.Spec.SlicesGrow
import Derived.Laws.AppendOwnNone
namespace Go.Proofs
open Go.Shelf
end Go.Proofs
namespace Go.Proofs.YtifeihnhkbagpaaGreatDoor.N
open Go.ChangeShapes Go.WideShapes Go.ChangeAt Go.RowKit

structure Pc where
  p : Option Addr
  n : Nat
  c : Nat
  cs : List Value

def PcAt (w : World) (sz b bo : Nat) (S : List Pc) : Prop := ∀ i q, S[i]? = some q → w.cell? ⟨b, bo + i, none⟩ = some (.slice q.p q.n q.c) ∧ Rw w sz q.p q.n q.c q.cs ∧ (q.p = none → q.c = 0) ∧ ∀ u ∈ q.cs, u.oneCell' = true
theorem PcAt.kept {w w' : World} {sz b bo : Nat} {S : List Pc} (h : PcAt w sz b bo S) (k : Kept w w') : PcAt w' sz b bo S := fun i q hq => ⟨k.cell (h i q hq).1, k.rw (h i q hq).2.1, (h i q hq).2.2⟩
end Go.Proofs.YtifeihnhkbagpaaGreatDoor.N