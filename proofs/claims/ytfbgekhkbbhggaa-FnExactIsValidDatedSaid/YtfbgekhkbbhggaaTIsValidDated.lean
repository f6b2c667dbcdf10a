/- FnExactIsValidDated: at every argument IsValidDated answers as its model does, and leaves its argument as it was. No condition. -/
import Derived.Test.YtfbgekhkbbhggaaVdI
import Derived.Test.YtfbgekhkbbhggaaVdS
import Derived.Test.YtfbgekhkbbhggaaWIsValidDated
import Derived.Test.YtfbgekhkbbhggaaFIsValidDated
namespace Go.Proofs.Ytfbgekhkbbhggaa
theorem fnExactIsValidDated_proved : Rows.FnExactIsValidDatedSaid := FIsValidDated.over (WIsValidDated.walk ChM.vd (fun a1 a2 a3 n1 n2 n3 l m Z w h => VdI.valid_any a1 a2 a3 n1 n1 n2 n2 n3 n3 l m Z w h) (fun a1 a2 a3 n1 n2 n3 l m Z w h => VdS.spec_any a1 a2 a3 n1 n1 n2 n2 n3 n3 l m Z w h))
#print axioms fnExactIsValidDated_proved
end Go.Proofs.Ytfbgekhkbbhggaa
