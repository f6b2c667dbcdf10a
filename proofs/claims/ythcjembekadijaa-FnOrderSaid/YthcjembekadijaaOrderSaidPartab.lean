/- Slices of pairs of ints in the world: what is held from an address on. -/
import Derived.Test.YthcjembekadijaaRows
import Derived.WalkKit
import Derived.ProofKit
import Derived.Lib.Hide
import Derived.Lib.SmallJoins
import Derived.Below

/- The model's l2Find: the place of a number among the contexts, or -1. -/

