/- FnExactRemoveRelation: at every argument RemoveRelation answers as its model does, leaves its arguments as they were, and its answer is memory of its own. No condition. -/
import Derived.Test.YtldalomoojhbkabRemR
import Derived.Test.YtldalomoojhbkabWRemoveRelation
import Derived.Test.YtldalomoojhbkabFRemoveRelation
namespace Go.Proofs.Ytldalomoojhbkab
theorem fnExactRemoveRelation_proved : Rows.FnExactRemoveRelationSaid := FRemoveRelation.over (fun y x a1 a2 n1 c1 n2 c2 l1 l2 w h1 h2 h3 h4 => WRemoveRelation.walk y x (RemRS.remR y x) (RemR.impl_any y x) (RemRS.spec_any y x) a1 a2 n1 c1 n2 c2 l1 l2 w h1 h2 h3 h4)
end Go.Proofs.Ytldalomoojhbkab
