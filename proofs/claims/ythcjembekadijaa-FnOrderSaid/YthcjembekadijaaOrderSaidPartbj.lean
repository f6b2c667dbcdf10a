/- Depths of contexts, by a search along an order and by rounds over the relations: mathematics. -/
import Derived.Test.YthcjembekadijaaOrderSaidPartbd
import Derived.Test.YthcjembekadijaaOrderSaidPartaj

/- Maps from numbers to numbers; a number that is missing counts 0. -/

