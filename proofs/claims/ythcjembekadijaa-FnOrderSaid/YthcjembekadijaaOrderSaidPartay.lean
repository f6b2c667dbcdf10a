/- The model's l2Link: a record with a relation more, at its place, unless it is there. -/
import Derived.Test.YthcjembekadijaaOrderSaidPartax
import Derived.Test.YthcjembekadijaaOrderSaidPartar
import Derived.StillTailTactics

/- Draws: a record. -/

