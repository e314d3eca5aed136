/- The walks of what is taken of two words by And and Less. No condition but those that each row names. -/
import Derived.Test.YtanccfbbaeocaaaLC
namespace Go.Proofs.Ytanccfbbaeocaaa.Bt
open Go.ChangeShapes Go.WideShapes Go.ChangeAt Go.RowKit
end Go.Proofs.Ytanccfbbaeocaaa.Bt
