/- FnExactIsValidEvidence: at every argument IsValidEvidence answers as its model does, and leaves its arguments as they were. No condition. -/
import Derived.Test.YtmjhgjlnpnkmkaaEvS
import Derived.Test.YtmjhgjlnpnkmkaaWIsValidEvidence
import Derived.Test.YtmjhgjlnpnkmkaaFIsValidEvidence
namespace Go.Proofs.Ytmjhgjlnpnkmkaa
theorem fnExactIsValidEvidence_proved : Rows.FnExactIsValidEvidenceSaid := FIsValidEvidence.over (WIsValidEvidence.walk EvM.evP (fun a1 a2 n1 c1 n2 c2 l m p np L w z1 z2 h1 h2 z3 h3 => EvP.impl_any a1 a2 p n1 c1 n2 c2 np np l m L w z1 z2 z3 h1 h2 h3) (fun a1 a2 n1 c1 n2 c2 l m p np L w z1 z2 h1 h2 z3 h3 => EvS.spec_any a1 a2 p n1 c1 n2 c2 np np l m L w z1 z2 z3 h1 h2 h3))
#print axioms fnExactIsValidEvidence_proved
end Go.Proofs.Ytmjhgjlnpnkmkaa
