/- Draws: the cursor's answer is known ahead. -/
import Derived.Test.YthcjembekadijaaOrderSaidPartap
import Derived.Test.YthcjembekadijaaOrderSaidPartay
import Derived.Deep.RegionHeld3
import Derived.Deep.RegionLaw
import Derived.Deep.AppendLies
import Derived.Deep.DeepCutAuto

/- Draws: a record that may be invalid. -/

