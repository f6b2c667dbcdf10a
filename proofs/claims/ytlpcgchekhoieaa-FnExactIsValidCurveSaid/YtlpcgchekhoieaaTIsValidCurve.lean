/- FnExactIsValidCurve: at every argument IsValidCurve answers as its model does, leaves its arguments as they were and owns its answer. No condition. -/
import Derived.Test.YtlpcgchekhoieaaCvI
import Derived.Test.YtlpcgchekhoieaaCvS
import Derived.Test.YtlpcgchekhoieaaWIsValidCurve
import Derived.Test.YtlpcgchekhoieaaFIsValidCurve
namespace Go.Proofs.Ytlpcgchekhoieaa
theorem fnExactIsValidCurve_proved : Rows.FnExactIsValidCurveSaid := FIsValidCurve.over (fun p0 n0 c0 M0 w z0 h0 => WIsValidCurve.walk CvM.cv (fun p0 n0 M0 w z0 h0 => (fun p n _ M w z h => CvI.valid_any p n n M w z (Nat.le_refl _) h) p0 n0 n0 M0 w z0 h0) (fun p0 n0 M0 w z0 h0 => CvS.spec_any p0 n0 n0 M0 w z0 h0) p0 n0 c0 M0 w z0 h0)
#print axioms fnExactIsValidCurve_proved
end Go.Proofs.Ytlpcgchekhoieaa
