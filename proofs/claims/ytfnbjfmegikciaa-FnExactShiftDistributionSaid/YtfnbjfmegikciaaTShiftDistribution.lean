/- FnExactShiftDistribution: at every argument ShiftDistribution answers as its model does, leaves its arguments as they were, and its answer owns its memory. No condition. -/
import Derived.Test.YtfnbjfmegikciaaShS
import Derived.Test.YtfnbjfmegikciaaWShiftDistribution
import Derived.Test.YtfnbjfmegikciaaFShiftDistribution
namespace Go.Proofs.Ytfnbjfmegikciaa
theorem fnExactShiftDistribution_proved : Rows.FnExactShiftDistributionSaid := FShiftDistribution.over (fun f p n c M y w z h => WShiftDistribution.walk ShI.shP (fun y f p n M w z h => ShI.impl_any y f p n n M w z h) (fun y f p n M w z h => ShS.spec_any y f p n n M w z h) f p n c M y w z h)
#print axioms fnExactShiftDistribution_proved
end Go.Proofs.Ytfnbjfmegikciaa
