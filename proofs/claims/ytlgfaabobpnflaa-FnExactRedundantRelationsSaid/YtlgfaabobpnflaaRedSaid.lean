/- FnExactRedundantRelations: at every argument RedundantRelations answers as its model does, leaves its arguments as they were, and its answer owns its memory. No condition. -/
import Derived.Test.YtlgfaabobpnflaaRedRI
import Derived.Test.YtlgfaabobpnflaaRedRS
import Derived.Test.YtlgfaabobpnflaaWRedundantRelations
import Derived.Test.YtlgfaabobpnflaaFRedundantRelations
namespace Go.Proofs.Ytlgfaabobpnflaa.RedSaid
open RedM
theorem said : Rows.FnExactRedundantRelationsSaid := FRedundantRelations.over (fun a1 a2 n1 c1 n2 c2 l1 l2 w h1 h2 h3 h4 => WRedundantRelations.walk redP RedRI.impl_any RedRS.spec_any a1 a2 n1 c1 n2 c2 l1 l2 w h1 h2 h3 h4)
#print axioms said
end Go.Proofs.Ytlgfaabobpnflaa.RedSaid
