/- The order of contexts, the smallest ready one first: mathematics. -/
import Derived.Test.YthcjembekadijaaOrderSaidPartbc
import Derived.Test.YthcjembekadijaaOrderSaidPartaj
import Derived.Test.YthcjembekadijaaOrderSaidPartai

/- The search for the shortest chain, with the chains that it stands for: mathematics. -/

