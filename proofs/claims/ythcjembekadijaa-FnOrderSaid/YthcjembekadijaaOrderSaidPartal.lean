/- A record under way in a box: two rows of its own that grow. -/
import Derived.Test.YthcjembekadijaaOrderSaidPartak
import Derived.Deep.AppendLies
import Derived.Test.YthcjembekadijaaOrderSaidPartaj

/- vHas and vRelated of the laws: a number in a list, a relation in a record. -/

