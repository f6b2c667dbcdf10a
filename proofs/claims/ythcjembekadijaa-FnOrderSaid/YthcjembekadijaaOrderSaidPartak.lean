/- copy and clear over rows of pairs; a row whose whole block is known. -/
import Derived.Test.YthcjembekadijaaOrderSaidPartaf
import Derived.Laws.CopyOwn
import Derived.Deep.RegionLaw
import Derived.Test.YthcjembekadijaaOrderSaidPartag
import Derived.Deep.RegionHeld3
import Derived.Deep.DeepCutAuto

/- The program's copyRecord: a record of its own. -/

