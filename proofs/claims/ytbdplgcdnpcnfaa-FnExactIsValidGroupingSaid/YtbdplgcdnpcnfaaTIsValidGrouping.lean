/- FnExactIsValidGrouping: at every argument IsValidGrouping answers as its model does, and leaves its arguments as they were. No condition. -/
import Derived.Test.YtbdplgcdnpcnfaaGpP
import Derived.Test.YtbdplgcdnpcnfaaWIsValidGrouping
import Derived.Test.YtbdplgcdnpcnfaaFIsValidGrouping
namespace Go.Proofs.Ytbdplgcdnpcnfaa
theorem fnExactIsValidGrouping_proved : Rows.FnExactIsValidGroupingSaid := FIsValidGrouping.over (WIsValidGrouping.walk GpI.grp (fun a1 a2 n1 c1 n2 c2 l m p np L w h1 h2 h3 h4 h5 h6 h7 => GpI.grp_any a1 a2 n1 c1 n2 c2 l m p np np L w h1 h2 (Nat.le_refl _) h5 h7 h3 h4 h6) GpP.good_any)
#print axioms fnExactIsValidGrouping_proved
end Go.Proofs.Ytbdplgcdnpcnfaa
