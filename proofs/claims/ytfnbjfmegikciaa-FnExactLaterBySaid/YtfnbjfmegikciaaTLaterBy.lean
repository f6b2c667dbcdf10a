/- FnExactLaterBy: at every argument LaterBy answers as its model does, leaves its arguments as they were, and its answer owns its memory. No condition. -/
import Derived.Test.YtfnbjfmegikciaaLbI
import Derived.Test.YtfnbjfmegikciaaLbS
import Derived.Test.YtfnbjfmegikciaaWLaterBy
import Derived.Test.YtfnbjfmegikciaaFLaterBy
namespace Go.Proofs.Ytfnbjfmegikciaa
theorem fnExactLaterBy_proved : Rows.FnExactLaterBySaid := FLaterBy.over (fun fa pa na ca Ma fb pb nb cb Mb w z1 h1 z2 h2 => WLaterBy.walk LbI.lbP (fun fa pa na Ma fb pb nb Mb w z1 z2 h1 h2 => LbI.impl_any fa pa na na Ma fb pb nb nb Mb w z1 z2 h1 h2) (fun fa pa na Ma fb pb nb Mb w z1 z2 h1 h2 => LbS.spec_any fa pa na na Ma fb pb nb nb Mb w z1 z2 h1 h2) fa pa na ca Ma fb pb nb cb Mb w z1 h1 z2 h2)
#print axioms fnExactLaterBy_proved
end Go.Proofs.Ytfnbjfmegikciaa
