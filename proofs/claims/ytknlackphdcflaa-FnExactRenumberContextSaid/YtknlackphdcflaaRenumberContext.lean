/- FnExactRenumberContext: at every argument RenumberContext answers as its model does, leaves its arguments as they were, and its answer is memory of its own. No condition. -/
import Derived.Test.YtknlackphdcflaaRenI
import Derived.Test.YtknlackphdcflaaRenS
import Derived.Test.YtknlackphdcflaaWRenumberContext
import Derived.Test.YtknlackphdcflaaFRenumberContext
namespace Go.Proofs.Ytknlackphdcflaa
theorem fnExactRenumberContext_proved : Rows.FnExactRenumberContextSaid := FRenumberContext.over (fun zu zv a1 a2 n1 c1 n2 c2 l1 l2 w h1 h2 h3 h4 => WRenumberContext.walk zu zv (RenM.renM zu zv) (Gives.Gives2.n (RenI.impl_any zu zv)) (RenS.spec_any zu zv) a1 a2 n1 c1 n2 c2 l1 l2 w h1 h2 h3 h4)
end Go.Proofs.Ytknlackphdcflaa
