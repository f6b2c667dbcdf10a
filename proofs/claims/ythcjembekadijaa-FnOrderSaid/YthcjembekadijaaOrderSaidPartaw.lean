/- The program's RemoveContext: a record without a context and its relations. -/
import Derived.Test.YthcjembekadijaaOrderSaidPartav
import Derived.Test.YthcjembekadijaaOrderSaidPartao

/- The program's AddContext: a record with a context more. -/

