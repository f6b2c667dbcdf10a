/- The program's contextsThat: the contexts that meet a condition. -/
import Derived.Test.YthcjembekadijaaOrderSaidPartaj
import Derived.Test.YthcjembekadijaaOrderSaidPartao
import Derived.Test.YthcjembekadijaaOrderSaidPartai
import Derived.Test.YthcjembekadijaaOrderSaidPartaa
import Derived.Test.YthcjembekadijaaOrderSaidPartal

/- Draws: picks of every width, one of some numbers; stores in a row of pairs. -/

