/- The model's l4Chain: mathematics. -/
import Derived.Test.YthcjembekadijaaOrderSaidPartbf
import Derived.Test.YthcjembekadijaaOrderSaidPartao

/- The shortest cycle: mathematics. -/

