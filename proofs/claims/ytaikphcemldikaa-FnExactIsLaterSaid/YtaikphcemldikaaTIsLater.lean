/- FnExactIsLater: at every argument IsLater answers as its model does, and leaves its arguments as they were. No condition. -/
import Derived.Test.YtaikphcemldikaaIsLater
import Derived.Test.YtaikphcemldikaaWIsLater
import Derived.Test.YtaikphcemldikaaFIsLater
namespace Go.Proofs.Ytaikphcemldikaa
theorem fnExactIsLater_proved : Rows.FnExactIsLaterSaid := FIsLater.over (fun y1 y2 a1 a2 n1 c1 n2 c2 l1 l2 w h1 h2 h3 h4 => WIsLater.walk y1 y2 (IsLater.latP y1 y2) (IsLater.impl_any y1 y2) (IsLater.spec_any y1 y2) a1 a2 n1 c1 n2 c2 l1 l2 w h1 h2 h3 h4)
#print axioms fnExactIsLater_proved
end Go.Proofs.Ytaikphcemldikaa
