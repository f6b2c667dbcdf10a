/- FnExactContradictoryRelations: at every argument ContradictoryRelations answers as its model does, leaves its arguments as they were, and its answer owns its memory. No condition. -/
import Derived.Test.YtkaafocadjhlnaaConI
import Derived.Test.YtkaafocadjhlnaaConS
import Derived.Test.YtkaafocadjhlnaaWContradictoryRelations
import Derived.Test.YtkaafocadjhlnaaFContradictoryRelations
namespace Go.Proofs.Ytkaafocadjhlnaa.ConSaid
open ConM
theorem said : Rows.FnExactContradictoryRelationsSaid := FContradictoryRelations.over (fun a1 a2 n1 c1 n2 c2 l1 l2 w h1 h2 h3 h4 => WContradictoryRelations.walk conP ConI.impl_any ConS.spec_any a1 a2 n1 c1 n2 c2 l1 l2 w h1 h2 h3 h4)
#print axioms said
end Go.Proofs.Ytkaafocadjhlnaa.ConSaid
