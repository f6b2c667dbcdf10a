/- The shortest chain: mathematics, and the values of the map of a search. -/
import Derived.Test.YthcjembekadijaaOrderSaidPartbd
import Derived.Test.YthcjembekadijaaOrderSaidPartac
import Derived.Test.YthcjembekadijaaOrderSaidPartam

/- The Lower contexts of a context ascend. -/

