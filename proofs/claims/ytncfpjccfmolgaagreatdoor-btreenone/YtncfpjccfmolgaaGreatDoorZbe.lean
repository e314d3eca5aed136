/- Joined: NPE. What is proved of the functions beneath BtreeNone. Conditions: those that each row names. -/
import Derived.Test.YtncfpjccfmolgaaGreatDoorZba
import Derived.Test.YtncfpjccfmolgaaGreatDoorZbd
