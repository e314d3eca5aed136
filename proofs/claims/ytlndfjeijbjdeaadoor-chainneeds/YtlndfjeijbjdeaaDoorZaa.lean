/- Joined: GShelf GKeys. What is proved of the functions beneath ChainNeeds. Conditions: those that each row names. -/
import Derived.Shelf.SlIterI.Nil
import Derived.Shelf.SortM.Plain
import Derived.Shelf.SortM.SortNone
import Derived.Ground.GgzProg
import Derived.Ground.SlgmProg
import Derived.Test.YtlndfjeijbjdeaaDoorProg
