/- The model's l2Own: a copy of a record. -/
import Derived.Test.YthcjembekadijaaOrderSaidPartas
import Derived.Test.YthcjembekadijaaOrderSaidPartat
import Derived.Test.YthcjembekadijaaOrderSaidPartak
import Derived.Deep.RegionLaw

/- slices.Delete of one context. -/

