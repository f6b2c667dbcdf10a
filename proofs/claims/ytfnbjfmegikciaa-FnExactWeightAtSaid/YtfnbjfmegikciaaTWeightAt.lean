/- FnExactWeightAt: at every argument WeightAt answers as its model does, and leaves its arguments as they were. No condition. -/
import Derived.Test.YtfnbjfmegikciaaWaS
import Derived.Test.YtfnbjfmegikciaaWWeightAt
import Derived.Test.YtfnbjfmegikciaaFWeightAt
namespace Go.Proofs.Ytfnbjfmegikciaa
theorem fnExactWeightAt_proved : Rows.FnExactWeightAtSaid := FWeightAt.over (fun f p n c M y w z h => WWeightAt.walk (fun f M y => WaI.waP y f M) (fun y f p n M w z h => WaI.impl_any y f p n n M w z h) (fun y f p n M w z h => WaS.spec_any y f p n n M w z h) y f p n c M w z h)
#print axioms fnExactWeightAt_proved
end Go.Proofs.Ytfnbjfmegikciaa
