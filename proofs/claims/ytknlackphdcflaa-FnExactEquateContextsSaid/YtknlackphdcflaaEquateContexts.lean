/- FnExactEquateContexts: at every argument EquateContexts answers as its model does, leaves its arguments as they were, and its answer is memory of its own. No condition. -/
import Derived.Test.YtknlackphdcflaaEquI
import Derived.Test.YtknlackphdcflaaEquS
import Derived.Test.YtknlackphdcflaaWEquateContexts
import Derived.Test.YtknlackphdcflaaFEquateContexts
namespace Go.Proofs.Ytknlackphdcflaa
theorem fnExactEquateContexts_proved : Rows.FnExactEquateContextsSaid := FEquateContexts.over (fun zu zv a1 a2 n1 c1 n2 c2 l1 l2 w h1 h2 h3 h4 => WEquateContexts.walk zu zv (EquM.eqM zu zv) (Gives.Gives2.n (EquI.impl_any zu zv)) (EquS.spec_any zu zv) a1 a2 n1 c1 n2 c2 l1 l2 w h1 h2 h3 h4)
end Go.Proofs.Ytknlackphdcflaa
