/- The laws' markRecord. -/
import Derived.Test.YthcjembekadijaaOrderSaidPartaf

/- The law file's eqRecord: two records that hold the same are equal. -/

