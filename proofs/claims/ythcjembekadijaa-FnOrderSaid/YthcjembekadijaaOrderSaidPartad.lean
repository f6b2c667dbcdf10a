/- The model's l2Good: whether a record is valid. -/
import Derived.Test.YthcjembekadijaaOrderSaidPartac
import Derived.Deep.QuietTactic
import Derived.BigQuiet
import Derived.Deep.RegionWith
import Derived.Lib.QuietBelow
import Derived.Test.YthcjembekadijaaRows
import Derived.WalkKit
import Derived.ProofKit
import Derived.Lib.Hide
import Derived.Carry
import Derived.OwnWalk
import Derived.RegionTactic
import Derived.Maps.OwnRows

/- A look-up and a store in a map, at a step of a region that draws its order: by an equation on the operation's run. No program in this text. -/

