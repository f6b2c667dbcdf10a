/- FnExactCombineMeasurements: at every argument CombineMeasurements answers as its model does, leaves its arguments as they were and owns its answer. No condition. -/
import Derived.Test.YtlpcgchekhoieaaCm
import Derived.Test.YtlpcgchekhoieaaWCombineMeasurements
import Derived.Test.YtlpcgchekhoieaaFCombineMeasurements
namespace Go.Proofs.Ytlpcgchekhoieaa
theorem fnExactCombineMeasurements_proved : Rows.FnExactCombineMeasurementsSaid := FCombineMeasurements.over (fun p0 n0 c0 M0 w z0 h0 => WCombineMeasurements.walk Cm.cmP (fun p0 n0 M0 w z0 h0 => Cm.impl_any p0 n0 n0 M0 w z0 h0) (fun p0 n0 M0 w z0 h0 => Cm.spec_any p0 n0 n0 M0 w z0 h0) p0 n0 c0 M0 w z0 h0)
#print axioms fnExactCombineMeasurements_proved
end Go.Proofs.Ytlpcgchekhoieaa
