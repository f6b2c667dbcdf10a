/- The program's elementsThat over relations: those that meet a condition. -/
import Derived.Test.YthcjembekadijaaOrderSaidPartaj
import Derived.Test.YthcjembekadijaaOrderSaidPartao
import Derived.Test.YthcjembekadijaaOrderSaidPartaq
import Derived.Test.YthcjembekadijaaOrderSaidPartap
import Derived.Maps.AppendAt
import Derived.Deep.AppendLies

/- Draws: some contexts. -/

