/- == and != of two relations, and slices.Index over relations. -/
import Derived.Test.YthcjembekadijaaOrderSaidPartam
import Derived.Test.YthcjembekadijaaOrderSaidPartag
import Derived.Laws.StructEq
import Derived.Shelf.SlicesE.Kit
import Derived.BigQuiet
import Derived.Test.YthcjembekadijaaOrderSaidPartas
import Derived.Test.YthcjembekadijaaOrderSaidPartau
import Derived.Test.YthcjembekadijaaOrderSaidPartaw
import Derived.Deep.RegionHeld3
import Derived.Lib.QuietBelow

/- The model's l2Link: a record with a pair more, at its place. -/

