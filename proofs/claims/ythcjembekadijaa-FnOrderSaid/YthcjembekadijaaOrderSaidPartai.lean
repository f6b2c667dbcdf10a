/- Lists of ints: what a function that makes one of a record is said to do; the laws' eqIntS, markIntS, heldIntS. -/
import Derived.Test.YthcjembekadijaaOrderSaidPartag
import Derived.Test.YthcjembekadijaaOrderSaidPartah
import Derived.BigQuiet
import Derived.Test.YthcjembekadijaaOrderSaidPartae
import Derived.Deep.LoopGhost

/- The program's chainsFrom: the search from a context. -/

