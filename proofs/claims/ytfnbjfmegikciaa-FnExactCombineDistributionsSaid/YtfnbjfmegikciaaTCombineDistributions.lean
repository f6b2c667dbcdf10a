/- FnExactCombineDistributions: at every argument CombineDistributions answers as its model does, leaves its arguments as they were, and its answer owns its memory. No condition. -/
import Derived.Test.YtfnbjfmegikciaaCoI
import Derived.Test.YtfnbjfmegikciaaCoS
import Derived.Test.YtfnbjfmegikciaaWCombineDistributions
import Derived.Test.YtfnbjfmegikciaaFCombineDistributions
namespace Go.Proofs.Ytfnbjfmegikciaa
theorem fnExactCombineDistributions_proved : Rows.FnExactCombineDistributionsSaid := FCombineDistributions.over (fun fa pa na ca Ma fb pb nb cb Mb w z1 h1 z2 h2 => WCombineDistributions.walk CoM.coP (fun fa pa na Ma fb pb nb Mb w z1 z2 h1 h2 => CoI.impl_any fa pa na na Ma fb pb nb nb Mb w z1 z2 h1 h2) (fun fa pa na Ma fb pb nb Mb w z1 z2 h1 h2 => CoS.spec_any fa pa na na Ma fb pb nb nb Mb w z1 z2 h1 h2) fa pa na ca Ma fb pb nb cb Mb w z1 h1 z2 h2)
#print axioms fnExactCombineDistributions_proved
end Go.Proofs.Ytfnbjfmegikciaa
