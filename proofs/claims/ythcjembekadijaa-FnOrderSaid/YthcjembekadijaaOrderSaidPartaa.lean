/- The model's cursor over a code (l1Cur): contracts of next, pick, one, of, any1: each returns a number or text within its bounds, and writes into nothing but the cursor. -/
import Derived.Test.YthcjembekadijaaRows
import Derived.WalkKit
import Derived.ProofKit
import Derived.Lib.Hide
import Derived.Deep.QuietTactic
import Derived.BigQuiet
import Derived.WalkSpells
import Derived.WalkLawsBesides
import Derived.Lib.SmallJoins

/- What the laws over a code share: the code as it comes in, vBig. -/

