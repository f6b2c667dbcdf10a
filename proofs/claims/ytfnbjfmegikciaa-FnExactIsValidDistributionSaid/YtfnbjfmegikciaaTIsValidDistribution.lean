/- FnExactIsValidDistribution: at every argument IsValidDistribution answers as its model does, and leaves its argument as it was. No condition. -/
import Derived.Test.YtfnbjfmegikciaaDvI
import Derived.Test.YtfnbjfmegikciaaDvS
import Derived.Test.YtfnbjfmegikciaaWIsValidDistribution
import Derived.Test.YtfnbjfmegikciaaFIsValidDistribution
namespace Go.Proofs.Ytfnbjfmegikciaa
theorem fnExactIsValidDistribution_proved : Rows.FnExactIsValidDistributionSaid := FIsValidDistribution.over (fun f p n c M w z h => WIsValidDistribution.walk DvM.okD (fun f p n M w z h => DvI.valid_any f p n n M w z h) (fun f p n M w z h => DvS.spec_any f p n n M w z h) f p n c M w z h)
#print axioms fnExactIsValidDistribution_proved
end Go.Proofs.Ytfnbjfmegikciaa
