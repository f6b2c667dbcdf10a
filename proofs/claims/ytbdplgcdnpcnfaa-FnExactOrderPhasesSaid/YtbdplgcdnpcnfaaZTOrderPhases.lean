/- FnExactOrderPhases: at every argument OrderPhases answers as its model does, leaves its arguments as they were, and owns its answer. No condition. -/
import Derived.Test.YtbdplgcdnpcnfaaExactOrderPhasesSaidPartbh
import Derived.Test.YtbdplgcdnpcnfaaExactOrderPhasesSaidPartbf
import Derived.Test.YtbdplgcdnpcnfaaExactOrderPhasesSaidPartbk
namespace Go.Proofs.Ytbdplgcdnpcnfaa
theorem fnExactOrderPhases_proved : Rows.FnExactOrderPhasesSaid := FOrderPhases.over (WOrderPhases.walk OpI.opP OpI.impl_any OpS.spec_any)
#print axioms fnExactOrderPhases_proved
end Go.Proofs.Ytbdplgcdnpcnfaa
