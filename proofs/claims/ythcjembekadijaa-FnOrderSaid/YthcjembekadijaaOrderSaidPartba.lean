/- Draws: the number of a context, or another one. -/
import Derived.Test.YthcjembekadijaaOrderSaidPartay
import Derived.Test.YthcjembekadijaaOrderSaidPartaz
import Derived.Deep.RegionHeld3
import Derived.Deep.RegionLaw
import Derived.Deep.DeepCutAuto

/- Draws for the law of order: a record and two numbers. -/

