/- FnExactShortestCycle: at every argument ShortestCycle answers as its model does, and leaves its arguments as they were. No condition. -/
import Derived.Test.YtlgfaabobpnflaaCycI
import Derived.Test.YtlgfaabobpnflaaCycS
import Derived.Test.YtlgfaabobpnflaaWShortestCycle
import Derived.Test.YtlgfaabobpnflaaFShortestCycle
namespace Go.Proofs.Ytlgfaabobpnflaa.CycSaid
open CycI
theorem said : Rows.FnExactShortestCycleSaid := FShortestCycle.over (fun a1 a2 n1 c1 n2 c2 l1 l2 w h1 h2 h3 h4 => WShortestCycle.walk cycP CycI.impl_any CycS.spec_any a1 a2 n1 c1 n2 c2 l1 l2 w h1 h2 h3 h4)
#print axioms said
end Go.Proofs.Ytlgfaabobpnflaa.CycSaid
