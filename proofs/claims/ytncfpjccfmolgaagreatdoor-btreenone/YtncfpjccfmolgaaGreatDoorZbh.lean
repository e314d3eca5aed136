/- Joined: NSlE NSlF NSlG NSlH. What is proved of the functions beneath BtreeNone. Conditions: those that each row names. -/
import Derived.Test.YtncfpjccfmolgaaGreatDoorZav
import Derived.Lib.Overlaps
import Derived.BigQuiet
import Derived.Deep.QuietTactic
