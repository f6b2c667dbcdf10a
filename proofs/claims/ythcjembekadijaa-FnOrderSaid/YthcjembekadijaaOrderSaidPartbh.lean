/- Chains: what the laws ask of them. -/
import Derived.Test.YthcjembekadijaaOrderSaidPartbg
import Derived.Shelf.Slices.Reverse
import Derived.Test.YthcjembekadijaaProg

/- /- slices.Reverse over ints. -/ -/

