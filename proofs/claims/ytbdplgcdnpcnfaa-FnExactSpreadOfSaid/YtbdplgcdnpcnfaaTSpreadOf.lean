/- FnExactSpreadOf: at every argument SpreadOf answers as its model does, and leaves its arguments as they were. No condition. -/
import Derived.Test.YtbdplgcdnpcnfaaGpX
import Derived.Test.YtbdplgcdnpcnfaaWSpreadOf
import Derived.Test.YtbdplgcdnpcnfaaFSpreadOf
namespace Go.Proofs.Ytbdplgcdnpcnfaa
theorem fnExactSpreadOf_proved : Rows.FnExactSpreadOfSaid := FSpreadOf.over (fun z => WSpreadOf.walk z (GpN.spP z) (GpW.impl_any z) (GpX.spec_any z))
#print axioms fnExactSpreadOf_proved
end Go.Proofs.Ytbdplgcdnpcnfaa
