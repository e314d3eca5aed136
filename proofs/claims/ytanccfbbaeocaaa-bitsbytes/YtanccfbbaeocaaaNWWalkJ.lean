/- The walks of wire.Text, wire.Fixed, wire.within and the reference's Text and Fixed. Conditions: numbers are ones of 64 bits; a text has 100000 bytes at most. -/
import Derived.Test.YtanccfbbaeocaaaNWWalkF

namespace Go.Proofs.Ytanccfbbaeocaaa.N
open Go.ChangeShapes Go.WideShapes Go.ChangeAt Go.RowKit

/-- How many bytes are meant. -/
def kOf (q : Int) : Nat := (min (max q 0) 8).toNat

theorem kOf_eq (q : Int) : min (max q 0) 8 = (kOf q : Int) := by unfold kOf; omega
theorem kOf_le (q : Int) : kOf q ≤ 8 := by unfold kOf; omega

end Go.Proofs.Ytanccfbbaeocaaa.N
