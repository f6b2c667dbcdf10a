/- The program's IsValidRecord answers whether a record is valid. -/
import Derived.Test.YthcjembekadijaaOrderSaidPartan
import Derived.Test.YthcjembekadijaaOrderSaidPartah
import Derived.BigQuiet
import Derived.Deep.RegionWith

/- The program's ContextIndex: the place of a number in a valid record. -/

