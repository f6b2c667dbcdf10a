/- The program's ShortestChain. -/
import Derived.Test.YthcjembekadijaaOrderSaidPartbk
import Derived.Test.YthcjembekadijaaOrderSaidPartbe
import Derived.Test.YthcjembekadijaaOrderSaidPartbc
import Derived.Deep.RegionWith
import Derived.Test.YthcjembekadijaaOrderSaidPartap
import Derived.Deep.AppendLies
import Derived.Laws.EntriesVeiled

/- FnExactLaterContexts: at every argument LaterContexts answers as its model does, leaves its arguments as they were, and its answer is memory of its own. No condition. -/

