/- Relations in their order: inserting, removing. -/
import Derived.Test.YthcjembekadijaaOrderSaidPartac
import Derived.Test.YthcjembekadijaaOrderSaidPartag
import Derived.Lib.QuietBelow
import Derived.StillTailTactics

/- The program's comparisons: cmp.Compare, cmp.Or, compareRelations, and small tests. -/

