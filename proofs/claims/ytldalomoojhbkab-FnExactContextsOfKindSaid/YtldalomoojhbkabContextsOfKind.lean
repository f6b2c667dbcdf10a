/- FnExactContextsOfKind: at every argument ContextsOfKind answers as its model does, leaves its arguments as they were, and its answer is memory of its own. No condition. -/
import Derived.Test.YtldalomoojhbkabKindOf
import Derived.Test.YtldalomoojhbkabWContextsOfKind
import Derived.Test.YtldalomoojhbkabFContextsOfKind
namespace Go.Proofs.Ytldalomoojhbkab
theorem fnExactContextsOfKind_proved : Rows.FnExactContextsOfKindSaid := FContextsOfKind.over (fun z a1 a2 n1 c1 n2 c2 l1 l2 w h1 h2 h3 h4 => WContextsOfKind.walk z (KindOf.kindsOf z) (KindOf.impl_any z) (KindOf.spec_any z) a1 a2 n1 c1 n2 c2 l1 l2 w h1 h2 h3 h4)
end Go.Proofs.Ytldalomoojhbkab
