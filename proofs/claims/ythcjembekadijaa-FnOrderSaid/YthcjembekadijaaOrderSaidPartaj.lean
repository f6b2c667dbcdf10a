/- The program's orderOf, and the function that it returns. -/
import Derived.Test.YthcjembekadijaaOrderSaidPartai

/- The first index at which a predicate holds; calls of closures. -/

