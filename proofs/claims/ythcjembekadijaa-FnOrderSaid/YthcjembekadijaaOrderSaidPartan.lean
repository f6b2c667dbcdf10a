/- The program's search among ascending contexts, and what leans on it. -/
import Derived.Test.YthcjembekadijaaOrderSaidPartam
import Derived.Deep.LoopGhost
import Derived.Shelf.Abstract
import Derived.BigQuiet
import Derived.Deep.RegionWith

/- The program's IsValidRecord answers whether a record is valid. -/

