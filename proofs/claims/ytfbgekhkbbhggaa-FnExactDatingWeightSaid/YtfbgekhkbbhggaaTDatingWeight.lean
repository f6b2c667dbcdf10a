/- FnExactDatingWeight: at every argument DatingWeight answers as its model does, and leaves its arguments as they were. No condition. -/
import Derived.Test.YtfbgekhkbbhggaaDwS
import Derived.Test.YtfbgekhkbbhggaaWDatingWeight
import Derived.Test.YtfbgekhkbbhggaaFDatingWeight
namespace Go.Proofs.Ytfbgekhkbbhggaa
theorem fnExactDatingWeight_proved : Rows.FnExactDatingWeightSaid := FDatingWeight.over (WDatingWeight.walk DwI.dwP (fun a1 a2 a3 n1 n2 n3 l m Z p k M w h hk hy => DwI.impl_any a1 a2 a3 n1 n1 n2 n2 n3 n3 l m Z p k k M w h hk hy (Nat.le_refl _)) (fun a1 a2 a3 n1 n2 n3 l m Z p k M w h hk hy => DwS.spec_any a1 a2 a3 n1 n1 n2 n2 n3 n3 l m Z p k k M w h hk hy))
#print axioms fnExactDatingWeight_proved
end Go.Proofs.Ytfbgekhkbbhggaa
