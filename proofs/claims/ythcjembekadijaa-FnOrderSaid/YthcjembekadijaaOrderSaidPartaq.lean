/- What a function that makes a list of relations of a record is said to do. -/
import Derived.Test.YthcjembekadijaaOrderSaidPartag
import Derived.Test.YthcjembekadijaaOrderSaidPartah

/- What a function that makes a list of relations of a record alone is said to do. -/

