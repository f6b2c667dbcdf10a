/- Contracts of the law file's helpers on records: size, copy, equality. -/
import Derived.Test.YthcjembekadijaaOrderSaidPartab
import Derived.Deep.QuietTactic
import Derived.BigQuiet
import Derived.StillTailTactics
import Derived.Deep.Heap
import Derived.Laws.OwnMore

/- Worlds that agree but for some blocks, and records that a call has made. -/

