/- FnExactReduceRecord: at every argument ReduceRecord answers as its model does, leaves its arguments as they were, and its answer owns its memory. No condition. -/
import Derived.Test.YtlgfaabobpnflaaRedcI
import Derived.Test.YtlgfaabobpnflaaRedcS
import Derived.Test.YtlgfaabobpnflaaWReduceRecord
import Derived.Test.YtlgfaabobpnflaaFReduceRecord
namespace Go.Proofs.Ytlgfaabobpnflaa.RedcSaid
open RedcM
theorem said : Rows.FnExactReduceRecordSaid := FReduceRecord.over (fun a1 a2 n1 c1 n2 c2 l1 l2 w h1 h2 h3 h4 => WReduceRecord.walk redcP RedcI.impl_any RedcS.spec_any a1 a2 n1 c1 n2 c2 l1 l2 w h1 h2 h3 h4)
#print axioms said
end Go.Proofs.Ytlgfaabobpnflaa.RedcSaid
