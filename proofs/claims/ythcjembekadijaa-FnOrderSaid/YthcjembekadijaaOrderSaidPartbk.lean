/- The program's shortestChain. -/
import Derived.Test.YthcjembekadijaaOrderSaidPartbe
import Derived.Test.YthcjembekadijaaOrderSaidPartbi
import Derived.Test.YthcjembekadijaaOrderSaidPartap
import Derived.Test.YthcjembekadijaaOrderSaidPartbj
import Derived.Deep.AppendLies
import Derived.Test.YthcjembekadijaaOrderSaidPartai

/- What a function that makes a list of ints and two bools of a record (and of two numbers) is said to do. -/

