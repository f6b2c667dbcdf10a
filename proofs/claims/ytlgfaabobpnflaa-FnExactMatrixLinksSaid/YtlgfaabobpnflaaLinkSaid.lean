/- FnExactMatrixLinks: at every argument MatrixLinks answers as its model does, leaves its arguments as they were, and its answer owns its memory. No condition. -/
import Derived.Test.YtlgfaabobpnflaaLinkI
import Derived.Test.YtlgfaabobpnflaaLinkT
import Derived.Test.YtlgfaabobpnflaaWMatrixLinks
import Derived.Test.YtlgfaabobpnflaaFMatrixLinks
namespace Go.Proofs.Ytlgfaabobpnflaa.LinkSaid
open LinkM
theorem said : Rows.FnExactMatrixLinksSaid := FMatrixLinks.over (fun a1 a2 n1 c1 n2 c2 l1 l2 w h1 h2 h3 h4 => WMatrixLinks.walk linkP LinkI.impl_any LinkT.spec_any a1 a2 n1 c1 n2 c2 l1 l2 w h1 h2 h3 h4)
#print axioms said
end Go.Proofs.Ytlgfaabobpnflaa.LinkSaid
