/- FnExactShortestInterval: at every argument ShortestInterval answers as its model does, and leaves its arguments as they were. No condition. -/
import Derived.Test.YtfnbjfmegikciaaSiI
import Derived.Test.YtfnbjfmegikciaaSiS
import Derived.Test.YtfnbjfmegikciaaWShortestInterval
import Derived.Test.YtfnbjfmegikciaaFShortestInterval
namespace Go.Proofs.Ytfnbjfmegikciaa
theorem fnExactShortestInterval_proved : Rows.FnExactShortestIntervalSaid := FShortestInterval.over (fun f p n c M num den w z h => WShortestInterval.walk (fun f M num den => SiM.siP num den f M) (fun num den f p n M w z h => SiI.impl_any num den f p n n M w z h) (fun num den f p n M w z h => SiS.spec_any num den f p n n M w z (Nat.le_refl _) h) num den f p n c M w z h)
#print axioms fnExactShortestInterval_proved
end Go.Proofs.Ytfnbjfmegikciaa
