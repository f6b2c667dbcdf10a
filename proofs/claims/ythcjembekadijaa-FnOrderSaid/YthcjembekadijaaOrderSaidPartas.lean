/- append of a slice of pairs, empty or not, onto a row of one's own: at the run, at a list, at a step of a drawn region. -/
import Derived.Test.YthcjembekadijaaOrderSaidPartak
import Derived.Deep.AppendLies
import Derived.Deep.Upon
import Derived.OwnWalk
import Derived.Test.YthcjembekadijaaOrderSaidPartac

/- A source of pairs at any address, empty or not; append of it onto a row of one's own; the place of a number. -/

