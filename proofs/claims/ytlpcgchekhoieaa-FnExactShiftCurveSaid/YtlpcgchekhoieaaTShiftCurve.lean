/- FnExactShiftCurve: at every argument ShiftCurve answers as its model does, leaves its arguments as they were and owns its answer. No condition. -/
import Derived.Test.YtlpcgchekhoieaaScI
import Derived.Test.YtlpcgchekhoieaaScS
import Derived.Test.YtlpcgchekhoieaaWShiftCurve
import Derived.Test.YtlpcgchekhoieaaFShiftCurve
namespace Go.Proofs.Ytlpcgchekhoieaa
theorem fnExactShiftCurve_proved : Rows.FnExactShiftCurveSaid := FShiftCurve.over (fun p0 n0 c0 M0 y1 y2 w z0 h0 ra1 rb1 ra2 rb2 => WShiftCurve.walk ScI.shP (fun p0 n0 M0 y1 y2 w z0 h0 ra1 rb1 ra2 rb2 => (fun p n _ M u v w z h ra rb rc rd => ScI.impl_any p n M u v w z h ra rb rc rd) p0 n0 n0 M0 y1 y2 w z0 h0 ra1 rb1 ra2 rb2) (fun p0 n0 M0 y1 y2 w z0 h0 ra1 rb1 ra2 rb2 => (fun p n _ M u v w z h ra rb rc rd => ScS.spec_any p n M u v w z h ra rb rc rd) p0 n0 n0 M0 y1 y2 w z0 h0 ra1 rb1 ra2 rb2) p0 n0 c0 M0 y1 y2 w z0 h0 ra1 rb1 ra2 rb2)
#print axioms fnExactShiftCurve_proved
end Go.Proofs.Ytlpcgchekhoieaa
