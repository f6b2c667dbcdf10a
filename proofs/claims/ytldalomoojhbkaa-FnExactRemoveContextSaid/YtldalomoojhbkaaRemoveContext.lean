/- FnExactRemoveContext: at every argument RemoveContext answers as its model does, leaves its arguments as they were, and its answer is memory of its own. No condition. -/
import Derived.Test.YtldalomoojhbkaaRemC
import Derived.Test.YtldalomoojhbkaaWRemoveContext
import Derived.Test.YtldalomoojhbkaaFRemoveContext
namespace Go.Proofs.Ytldalomoojhbkaa
theorem fnExactRemoveContext_proved : Rows.FnExactRemoveContextSaid := FRemoveContext.over (fun z a1 a2 n1 c1 n2 c2 l1 l2 w h1 h2 h3 h4 => WRemoveContext.walk z (RemCS.remC z) (RemC.impl_any z) (RemCS.spec_any z) a1 a2 n1 c1 n2 c2 l1 l2 w h1 h2 h3 h4)
end Go.Proofs.Ytldalomoojhbkaa
