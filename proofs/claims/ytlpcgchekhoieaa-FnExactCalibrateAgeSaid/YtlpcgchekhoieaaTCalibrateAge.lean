/- FnExactCalibrateAge: at every argument CalibrateAge answers as its model does, leaves its arguments as they were and owns its answer. No condition. -/
import Derived.Test.YtlpcgchekhoieaaClI
import Derived.Test.YtlpcgchekhoieaaClS
import Derived.Test.YtlpcgchekhoieaaWCalibrateAge
import Derived.Test.YtlpcgchekhoieaaFCalibrateAge
namespace Go.Proofs.Ytlpcgchekhoieaa
theorem fnExactCalibrateAge_proved : Rows.FnExactCalibrateAgeSaid := FCalibrateAge.over (fun p0 n0 c0 M0 y1 s1 w z0 h0 => WCalibrateAge.walk (fun M y s => ClI.clP M (y, s)) (fun p0 n0 M0 y1 s1 w z0 h0 => (fun p n _ M y s w z h => ClI.impl_any p n M y s w z h) p0 n0 n0 M0 y1 s1 w z0 h0) (fun p0 n0 M0 y1 s1 w z0 h0 => (fun p n _ M y s w z h => ClS.spec_any p n M y s w z h) p0 n0 n0 M0 y1 s1 w z0 h0) p0 n0 c0 M0 y1 s1 w z0 h0)
#print axioms fnExactCalibrateAge_proved
end Go.Proofs.Ytlpcgchekhoieaa
