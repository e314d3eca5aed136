/- Joined: NPE. What is proved of the functions beneath StoreNone. Conditions: those that each row names. -/
import Derived.Test.YtifeihnhkbagpaaGreatDoorZba
import Derived.Test.YtifeihnhkbagpaaGreatDoorZbc
