/- Redundant relations: mathematics. -/
import Derived.Test.YthcjembekadijaaOrderSaidPartbd
import Derived.Test.YthcjembekadijaaOrderSaidPartbe

/- The model's steps to a context, and the first shortest chain that it walks down: mathematics. -/

