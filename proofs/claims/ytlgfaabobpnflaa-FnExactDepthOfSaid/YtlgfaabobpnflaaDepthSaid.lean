/- FnExactDepthOf: at every argument DepthOf answers as its model does, and leaves its arguments as they were. No condition. -/
import Derived.Test.YtlgfaabobpnflaaDepthI
import Derived.Test.YtlgfaabobpnflaaDepthS
import Derived.Test.YtlgfaabobpnflaaWDepthOf
import Derived.Test.YtlgfaabobpnflaaFDepthOf
namespace Go.Proofs.Ytlgfaabobpnflaa.DepthSaid
open DepthI
theorem said : Rows.FnExactDepthOfSaid := FDepthOf.over (fun z a1 a2 n1 c1 n2 c2 l1 l2 w h1 h2 h3 h4 => WDepthOf.walk depthP DepthI.impl_any DepthS.spec_any a1 a2 n1 c1 n2 c2 l1 l2 z w h1 h2 h3 h4)
#print axioms said
end Go.Proofs.Ytlgfaabobpnflaa.DepthSaid
