/- What a function that makes a record of a record is said to do. -/
import Derived.Test.YthcjembekadijaaOrderSaidPartag
import Derived.Test.YthcjembekadijaaOrderSaidPartah
import Derived.Test.YthcjembekadijaaOrderSaidPartal
import Derived.Test.YthcjembekadijaaOrderSaidPartad
import Derived.Deep.DeepCutAuto
import Derived.Deep.RegionLaw

/- The model's RemoveContext: a record without a context and its relations. -/

