/- FnExactContradictionGroups: at every argument ContradictionGroups answers as its model does, leaves its arguments as they were, and its answer owns its memory. No condition. -/
import Derived.Test.YtfjpogohdoojmaaGrpI
import Derived.Test.YtfjpogohdoojmaaGrpS
import Derived.Test.YtfjpogohdoojmaaWContradictionGroups
import Derived.Test.YtfjpogohdoojmaaFContradictionGroups
namespace Go.Proofs.Ytfjpogohdoojmaa.GrpSaid
open GrpM
theorem said : Rows.FnExactContradictionGroupsSaid := FContradictionGroups.over (fun a1 a2 n1 c1 n2 c2 l1 l2 w h1 h2 h3 h4 => WContradictionGroups.walk grpP GrpI.impl_any GrpS.spec_any a1 a2 n1 c1 n2 c2 l1 l2 w h1 h2 h3 h4)
#print axioms said
end Go.Proofs.Ytfjpogohdoojmaa.GrpSaid
