/- FnOrder: at every code the law returns true (a code of more than 65536 bytes at once), and what was there before is left as it was. No condition. -/
import Derived.Test.YthcjembekadijaaOrderSaidPartaa
import Derived.Test.YthcjembekadijaaOrderSaidPartal
import Derived.Test.YthcjembekadijaaOrderSaidPartba
import Derived.Test.YthcjembekadijaaOrderSaidPartbh
import Derived.Test.YthcjembekadijaaOrderSaidPartbl
import Derived.Test.YthcjembekadijaaOrderSaidPartbc
import Derived.Test.YthcjembekadijaaOrderSaidPartbm

