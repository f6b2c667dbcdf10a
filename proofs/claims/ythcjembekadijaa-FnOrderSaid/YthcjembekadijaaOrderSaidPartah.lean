/- A record that comes in as an argument: its two slices, and the pairs that they hold. -/
import Derived.Test.YthcjembekadijaaOrderSaidPartab
import Derived.Deep.SlicePairs
import Derived.ChangeArms
import Derived.Test.YthcjembekadijaaOrderSaidPartag
import Derived.OpenShut
import Derived.Deep.RegionHeld3
import Derived.Deep.RegionWith
import Derived.ChangeOld

/- What the walks of the laws over a record share. -/

