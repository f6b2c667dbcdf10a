/- FnExactUngroupedContexts: at every argument UngroupedContexts answers as its model does, leaves its arguments as they were, and owns its answer. No condition. -/
import Derived.Test.YtbdplgcdnpcnfaaGpU
import Derived.Test.YtbdplgcdnpcnfaaWUngroupedContexts
import Derived.Test.YtbdplgcdnpcnfaaFUngroupedContexts
namespace Go.Proofs.Ytbdplgcdnpcnfaa
theorem fnExactUngroupedContexts_proved : Rows.FnExactUngroupedContextsSaid := FUngroupedContexts.over (WUngroupedContexts.walk GpU.unP GpU.impl_any GpU.spec_any)
#print axioms fnExactUngroupedContexts_proved
end Go.Proofs.Ytbdplgcdnpcnfaa
