/- FnExactPhaseOf: at every argument PhaseOf answers as its model does, and leaves its arguments as they were. No condition. -/
import Derived.Test.YtbdplgcdnpcnfaaGpP
import Derived.Test.YtbdplgcdnpcnfaaWPhaseOf
import Derived.Test.YtbdplgcdnpcnfaaFPhaseOf
namespace Go.Proofs.Ytbdplgcdnpcnfaa
theorem fnExactPhaseOf_proved : Rows.FnExactPhaseOfSaid := FPhaseOf.over (fun z => WPhaseOf.walk z (GpP.poP z) (GpP.impl_any z) (GpP.spec_any z))
#print axioms fnExactPhaseOf_proved
end Go.Proofs.Ytbdplgcdnpcnfaa
