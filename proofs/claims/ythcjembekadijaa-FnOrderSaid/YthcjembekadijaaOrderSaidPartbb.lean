/- The model's l4Bit; sets of bits in ints; a row of such sets. -/
import Derived.Test.YthcjembekadijaaOrderSaidPartac
import Derived.Test.YthcjembekadijaaOrderSaidPartad
import Derived.Test.YthcjembekadijaaOrderSaidPartai
import Derived.Laws.BitsAllLaws
import Derived.Lib.QuietBelow
import Derived.Deep.DeepCutAuto
import Derived.Deep.RegionHeld3

/- The model's l4Later: the table of what is later. -/

