/- FnExactCurveTurns: at every argument CurveTurns answers as its model does, leaves its arguments as they were and owns its answer. No condition. -/
import Derived.Test.YtlpcgchekhoieaaTnI
import Derived.Test.YtlpcgchekhoieaaTnS
import Derived.Test.YtlpcgchekhoieaaWCurveTurns
import Derived.Test.YtlpcgchekhoieaaFCurveTurns
namespace Go.Proofs.Ytlpcgchekhoieaa
theorem fnExactCurveTurns_proved : Rows.FnExactCurveTurnsSaid := FCurveTurns.over (fun p0 n0 c0 M0 w z0 h0 => WCurveTurns.walk TnI.ctP (fun p0 n0 M0 w z0 h0 => (fun p n _ M w z h => TnI.impl_any p n M w z h) p0 n0 n0 M0 w z0 h0) (fun p0 n0 M0 w z0 h0 => (fun p n _ M w z h => TnS.spec_any p n M w z h) p0 n0 n0 M0 w z0 h0) p0 n0 c0 M0 w z0 h0)
#print axioms fnExactCurveTurns_proved
end Go.Proofs.Ytlpcgchekhoieaa
