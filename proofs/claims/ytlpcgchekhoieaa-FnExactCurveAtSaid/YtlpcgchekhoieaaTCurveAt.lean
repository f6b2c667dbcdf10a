/- FnExactCurveAt: at every argument CurveAt answers as its model does, leaves its arguments as they were and owns its answer. No condition. -/
import Derived.Test.YtlpcgchekhoieaaPtI
import Derived.Test.YtlpcgchekhoieaaPtS
import Derived.Test.YtlpcgchekhoieaaWCurveAt
import Derived.Test.YtlpcgchekhoieaaFCurveAt
namespace Go.Proofs.Ytlpcgchekhoieaa
theorem fnExactCurveAt_proved : Rows.FnExactCurveAtSaid := FCurveAt.over (fun p0 n0 c0 M0 y1 w z0 h0 => WCurveAt.walk PtI.caP (fun p0 n0 M0 y1 w z0 h0 => (fun p n _ M y w z h => PtI.impl_any p n M y w z h) p0 n0 n0 M0 y1 w z0 h0) (fun p0 n0 M0 y1 w z0 h0 => (fun p n _ M y w z h => PtS.spec_any p n M y w z h) p0 n0 n0 M0 y1 w z0 h0) p0 n0 c0 M0 y1 w z0 h0)
#print axioms fnExactCurveAt_proved
end Go.Proofs.Ytlpcgchekhoieaa
