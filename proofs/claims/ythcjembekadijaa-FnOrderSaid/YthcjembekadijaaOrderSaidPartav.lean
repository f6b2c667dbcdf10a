/- slices.Insert of one context into a row without room. -/
import Derived.Test.YthcjembekadijaaOrderSaidPartau
import Derived.Test.YthcjembekadijaaOrderSaidPartam
import Derived.Lib.AppendZeros
import Derived.Deep.AppendLies
import Derived.Test.YthcjembekadijaaOrderSaidPartat
import Derived.Test.YthcjembekadijaaOrderSaidPartao

/- slices.DeleteFunc over relations, with the closure of RemoveContext. -/

