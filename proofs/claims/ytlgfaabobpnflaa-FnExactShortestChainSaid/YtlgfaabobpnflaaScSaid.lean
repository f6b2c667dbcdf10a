/- FnExactShortestChain: at every argument ShortestChain answers as its model does, and leaves its arguments as they were. No condition. -/
import Derived.Test.YtlgfaabobpnflaaScP
import Derived.Test.YtlgfaabobpnflaaScS
import Derived.Test.YtlgfaabobpnflaaWShortestChain
import Derived.Test.YtlgfaabobpnflaaFShortestChain
namespace Go.Proofs.Ytlgfaabobpnflaa.ScSaid
open ScP
theorem said : Rows.FnExactShortestChainSaid := FShortestChain.over (fun y1 y2 a1 a2 n1 c1 n2 c2 l1 l2 w h1 h2 h3 h4 => WShortestChain.walk y1 y2 (scP y1 y2) (ScP.impl_any y1 y2) (ScS.spec_any y1 y2) a1 a2 n1 c1 n2 c2 l1 l2 w h1 h2 h3 h4)
#print axioms said
end Go.Proofs.Ytlgfaabobpnflaa.ScSaid
