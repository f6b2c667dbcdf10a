/- FnExactAgreementOf: at every argument AgreementOf answers as its model does, leaves its arguments as they were and owns its answer. No condition. -/
import Derived.Test.YtlpcgchekhoieaaAg
import Derived.Test.YtlpcgchekhoieaaWAgreementOf
import Derived.Test.YtlpcgchekhoieaaFAgreementOf
namespace Go.Proofs.Ytlpcgchekhoieaa
theorem fnExactAgreementOf_proved : Rows.FnExactAgreementOfSaid := FAgreementOf.over (fun p0 n0 c0 M0 w z0 h0 => WAgreementOf.walk Ag.agP (fun p0 n0 M0 w z0 h0 => Ag.impl_any p0 n0 n0 M0 w z0 h0) (fun p0 n0 M0 w z0 h0 => Ag.spec_any p0 n0 n0 M0 w z0 h0) p0 n0 c0 M0 w z0 h0)
#print axioms fnExactAgreementOf_proved
end Go.Proofs.Ytlpcgchekhoieaa
