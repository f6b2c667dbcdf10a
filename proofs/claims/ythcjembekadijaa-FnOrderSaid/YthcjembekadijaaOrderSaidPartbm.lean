/- FnExactEarlierContexts: at every argument EarlierContexts answers as its model does, leaves its arguments as they were, and its answer is memory of its own. No condition. -/
import Derived.Test.YthcjembekadijaaOrderSaidPartap
import Derived.Test.YthcjembekadijaaOrderSaidPartbc
import Derived.Deep.AppendLies
import Derived.Laws.EntriesVeiled
import Derived.Test.YthcjembekadijaaOrderSaidPartaa
import Derived.WalkKit
import Derived.ProofKit
import Derived.OpenShut
import Derived.ShutString
import Derived.ChangeOld
import Derived.Below

/- The frame of FnOrder: from a walk to the statement. -/

