/- FnExactContextOrder: at every argument ContextOrder answers as its model does, leaves its arguments as they were, and its answer owns its memory. No condition. -/
import Derived.Test.YtobnoiilnckmaaaCtxOrd
import Derived.Test.YtobnoiilnckmaaaCtxOrdS
import Derived.Test.YtobnoiilnckmaaaWContextOrder
import Derived.Test.YtobnoiilnckmaaaFContextOrder
namespace Go.Proofs.Ytobnoiilnckmaaa.CtxSaid
open OrdM
theorem said : Rows.FnExactContextOrderSaid := FContextOrder.over (fun a1 a2 n1 c1 n2 c2 l1 l2 w h1 h2 h3 h4 => WContextOrder.walk orderP CtxOrd.impl_any CtxOrdS.spec_any a1 a2 n1 c1 n2 c2 l1 l2 w h1 h2 h3 h4)
#print axioms said
end Go.Proofs.Ytobnoiilnckmaaa.CtxSaid
