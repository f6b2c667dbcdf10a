/- FnExactSuspectContexts: at every argument SuspectContexts answers as its model does, leaves its arguments as they were, and its answer owns its memory. No condition. -/
import Derived.Test.YtkaafocadjhlnaaSusI
import Derived.Test.YtkaafocadjhlnaaSusS
import Derived.Test.YtkaafocadjhlnaaWSuspectContexts
import Derived.Test.YtkaafocadjhlnaaFSuspectContexts
namespace Go.Proofs.Ytkaafocadjhlnaa.SusSaid
open SusI
theorem said : Rows.FnExactSuspectContextsSaid := FSuspectContexts.over (fun a1 a2 n1 c1 n2 c2 l1 l2 w h1 h2 h3 h4 => WSuspectContexts.walk susP SusI.impl_any SusS.spec_any a1 a2 n1 c1 n2 c2 l1 l2 w h1 h2 h3 h4)
#print axioms said
end Go.Proofs.Ytkaafocadjhlnaa.SusSaid
