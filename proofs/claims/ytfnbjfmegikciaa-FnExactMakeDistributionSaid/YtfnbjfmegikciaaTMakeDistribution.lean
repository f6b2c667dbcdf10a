/- FnExactMakeDistribution: at every argument MakeDistribution answers as its model does, leaves its arguments as they were, and its answer owns its memory. No condition. -/
import Derived.Test.YtfnbjfmegikciaaMkS
import Derived.Test.YtfnbjfmegikciaaWMakeDistribution
import Derived.Test.YtfnbjfmegikciaaFMakeDistribution
namespace Go.Proofs.Ytfnbjfmegikciaa
theorem fnExactMakeDistribution_proved : Rows.FnExactMakeDistributionSaid := FMakeDistribution.over (fun y p n c M w z h => WMakeDistribution.walk MkI.makeP (fun y p n M w z h => MkI.impl_any y p n n M w z (Nat.le_refl _) h) (fun y p n M w z h => MkS.spec_any y p n n M w z h) y p n c M w z h)
#print axioms fnExactMakeDistribution_proved
end Go.Proofs.Ytfnbjfmegikciaa
