/- A row put in place of another. -/
import Derived.Test.YthcjembekadijaaOrderSaidPartai
import Derived.Test.YthcjembekadijaaOrderSaidPartbh

/- slices.Reverse over ints, of a row of its own. -/

