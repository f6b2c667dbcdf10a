/- The program's and the model's IsLater. -/
import Derived.Test.YthcjembekadijaaOrderSaidPartaj
import Derived.Test.YthcjembekadijaaOrderSaidPartbb
import Derived.Test.YthcjembekadijaaOrderSaidPartao
import Derived.Test.YthcjembekadijaaOrderSaidPartap
import Derived.Laws.EntriesVeiled

/- The program's IsConsistent and the model's l4Consistent. -/

