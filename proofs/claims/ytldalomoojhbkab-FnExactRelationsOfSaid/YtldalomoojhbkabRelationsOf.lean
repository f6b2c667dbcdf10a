/- FnExactRelationsOf: at every argument RelationsOf answers as its model does, leaves its arguments as they were, and its answer is memory of its own. No condition. -/
import Derived.Test.YtldalomoojhbkabRelOf
import Derived.Test.YtldalomoojhbkabWRelationsOf
import Derived.Test.YtldalomoojhbkabFRelationsOf
namespace Go.Proofs.Ytldalomoojhbkab
theorem fnExactRelationsOf_proved : Rows.FnExactRelationsOfSaid := FRelationsOf.over (fun z a1 a2 n1 c1 n2 c2 l1 l2 w h1 h2 h3 h4 => WRelationsOf.walk z (RelOf.relsOf z) (RelOf.impl_any z) (RelOf.spec_any z) a1 a2 n1 c1 n2 c2 l1 l2 w h1 h2 h3 h4)
end Go.Proofs.Ytldalomoojhbkab
