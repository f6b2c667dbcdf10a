/- The program's lowersOf: a map from every Upper context to its Lower ones. -/
import Derived.Test.YthcjembekadijaaOrderSaidPartac
import Derived.Test.YthcjembekadijaaOrderSaidPartad
import Derived.Maps.GroupsBeside
import Derived.Deep.AppendLies
import Derived.Deep.RegionHeld3
import Derived.ArgAppend
import Derived.Maps.OwnSet

/- A queue of ints: a slice somewhere in a row of its own; append to it; its head. The map that a search fills. -/

