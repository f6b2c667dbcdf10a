/- FnExactYearsWithin: at every argument YearsWithin answers as its model does, leaves its arguments as they were and owns its answer. No condition. -/
import Derived.Test.YtlpcgchekhoieaaYwI
import Derived.Test.YtlpcgchekhoieaaYwS
import Derived.Test.YtlpcgchekhoieaaWYearsWithin
import Derived.Test.YtlpcgchekhoieaaFYearsWithin
namespace Go.Proofs.Ytlpcgchekhoieaa
theorem fnExactYearsWithin_proved : Rows.FnExactYearsWithinSaid := FYearsWithin.over (fun p0 n0 c0 M0 y1 y2 w z0 h0 => WYearsWithin.walk YwI.ywP (fun p0 n0 M0 y1 y2 w z0 h0 => (fun p n _ M u v w z h => YwI.impl_any p n M u v w z h) p0 n0 n0 M0 y1 y2 w z0 h0) (fun p0 n0 M0 y1 y2 w z0 h0 => (fun p n _ M u v w z h => YwS.spec_any p n M u v w z h) p0 n0 n0 M0 y1 y2 w z0 h0) p0 n0 c0 M0 y1 y2 w z0 h0)
#print axioms fnExactYearsWithin_proved
end Go.Proofs.Ytlpcgchekhoieaa
