/- FnExactAddContext: at every argument AddContext answers as its model does, leaves its arguments as they were, and its answer is memory of its own. No condition. -/
import Derived.Test.YtknlackphdcflaaAddC
import Derived.Test.YtknlackphdcflaaAddCS
import Derived.Test.YtknlackphdcflaaWAddContext
import Derived.Test.YtknlackphdcflaaFAddContext
namespace Go.Proofs.Ytknlackphdcflaa
theorem fnExactAddContext_proved : Rows.FnExactAddContextSaid := FAddContext.over (fun zu zv a1 a2 n1 c1 n2 c2 l1 l2 w h1 h2 h3 h4 => WAddContext.walk zu zv (AddC.addC zu zv) (Gives.Gives1.n (AddC.impl_any zu zv)) (AddCS.spec_any zu zv) a1 a2 n1 c1 n2 c2 l1 l2 w h1 h2 h3 h4)
end Go.Proofs.Ytknlackphdcflaa
