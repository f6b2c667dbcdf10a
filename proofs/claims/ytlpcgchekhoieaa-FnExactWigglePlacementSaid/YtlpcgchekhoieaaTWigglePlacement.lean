/- FnExactWigglePlacement: at every argument WigglePlacement answers as its model does, leaves its arguments as they were and owns its answer. No condition. -/
import Derived.Test.YtlpcgchekhoieaaWgI
import Derived.Test.YtlpcgchekhoieaaWgS
import Derived.Test.YtlpcgchekhoieaaWWigglePlacement
import Derived.Test.YtlpcgchekhoieaaFWigglePlacement
namespace Go.Proofs.Ytlpcgchekhoieaa
theorem fnExactWigglePlacement_proved : Rows.FnExactWigglePlacementSaid := FWigglePlacement.over (fun p0 n0 c0 M0 p1 n1 c1 M1 p2 n2 c2 M2 w z0 h0 z1 h1 z2 h2 => WWigglePlacement.walk WgM.wgP (fun p0 n0 M0 p1 n1 M1 p2 n2 M2 w z0 h0 z1 h1 z2 h2 => (fun p0 n0 _ M0 p1 n1 _ M1 p2 n2 _ M2 w z0 h0 z1 h1 z2 h2 => WgI.impl_any p0 n0 M0 p1 n1 M1 p2 n2 M2 w z0 h0 z1 h1 z2 h2) p0 n0 n0 M0 p1 n1 n1 M1 p2 n2 n2 M2 w z0 h0 z1 h1 z2 h2) (fun p0 n0 M0 p1 n1 M1 p2 n2 M2 w z0 h0 z1 h1 z2 h2 => (fun p0 n0 _ M0 p1 n1 _ M1 p2 n2 _ M2 w z0 h0 z1 h1 z2 h2 => WgS.spec_any p0 n0 M0 p1 n1 M1 p2 n2 M2 w z0 h0 z1 h1 z2 h2) p0 n0 n0 M0 p1 n1 n1 M1 p2 n2 n2 M2 w z0 h0 z1 h1 z2 h2) p0 n0 c0 M0 p1 n1 c1 M1 p2 n2 c2 M2 w z0 h0 z1 h1 z2 h2)
#print axioms fnExactWigglePlacement_proved
end Go.Proofs.Ytlpcgchekhoieaa
