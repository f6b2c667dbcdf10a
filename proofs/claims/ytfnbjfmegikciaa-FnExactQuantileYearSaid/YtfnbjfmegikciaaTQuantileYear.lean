/- FnExactQuantileYear: at every argument QuantileYear answers as its model does, and leaves its arguments as they were. No condition. -/
import Derived.Test.YtfnbjfmegikciaaQuS
import Derived.Test.YtfnbjfmegikciaaWQuantileYear
import Derived.Test.YtfnbjfmegikciaaFQuantileYear
namespace Go.Proofs.Ytfnbjfmegikciaa
theorem fnExactQuantileYear_proved : Rows.FnExactQuantileYearSaid := FQuantileYear.over (fun f p n c M num den w z h => WQuantileYear.walk (fun f M num den => QuI.quP num den f M) (fun num den f p n M w z h => QuI.impl_any num den f p n n M w z h) (fun num den f p n M w z h => QuS.spec_any num den f p n n M w z h) num den f p n c M w z h)
#print axioms fnExactQuantileYear_proved
end Go.Proofs.Ytfnbjfmegikciaa
