/- FnExactAddRelation: at every argument AddRelation answers as its model does, leaves its arguments as they were, and its answer is memory of its own. No condition. -/
import Derived.Test.YtknlackphdcflaaAddR
import Derived.Test.YtknlackphdcflaaAddRS
import Derived.Test.YtknlackphdcflaaWAddRelation
import Derived.Test.YtknlackphdcflaaFAddRelation
namespace Go.Proofs.Ytknlackphdcflaa
theorem fnExactAddRelation_proved : Rows.FnExactAddRelationSaid := FAddRelation.over (fun zu zv a1 a2 n1 c1 n2 c2 l1 l2 w h1 h2 h3 h4 => WAddRelation.walk zu zv (AddRM.addR zu zv) (Gives.Gives1.n (AddR.impl_any zu zv)) (AddRS.spec_any zu zv) a1 a2 n1 c1 n2 c2 l1 l2 w h1 h2 h3 h4)
end Go.Proofs.Ytknlackphdcflaa
