/- FnExactCloseRecord: at every argument CloseRecord answers as its model does, leaves its arguments as they were, and its answer owns its memory. No condition. -/
import Derived.Test.YtlgfaabobpnflaaCloI
import Derived.Test.YtlgfaabobpnflaaCloS
import Derived.Test.YtlgfaabobpnflaaWCloseRecord
import Derived.Test.YtlgfaabobpnflaaFCloseRecord
namespace Go.Proofs.Ytlgfaabobpnflaa.CloSaid
open RedcM
theorem said : Rows.FnExactCloseRecordSaid := FCloseRecord.over (fun a1 a2 n1 c1 n2 c2 l1 l2 w h1 h2 h3 h4 => WCloseRecord.walk closP CloI.impl_any CloS.spec_any a1 a2 n1 c1 n2 c2 l1 l2 w h1 h2 h3 h4)
#print axioms said
end Go.Proofs.Ytlgfaabobpnflaa.CloSaid
