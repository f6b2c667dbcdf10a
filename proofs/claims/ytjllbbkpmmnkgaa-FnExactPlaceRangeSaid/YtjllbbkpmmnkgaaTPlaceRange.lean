/- FnExactPlaceRange: at every argument PlaceRange answers as its model does, leaves its arguments as they were, and its answer is memory of its own. No condition. -/
import Derived.Test.YtjllbbkpmmnkgaaPlrM
import Derived.Test.YtjllbbkpmmnkgaaPlrS
import Derived.Test.YtjllbbkpmmnkgaaWPlaceRange
import Derived.Test.YtjllbbkpmmnkgaaFPlaceRange
namespace Go.Proofs.Ytjllbbkpmmnkgaa
theorem fnExactPlaceRange_proved : Rows.FnExactPlaceRangeSaid := FPlaceRange.over (fun z a1 a2 n1 c1 n2 c2 l1 l2 w h1 h2 h3 h4 => WPlaceRange.walk z (fun _ => True) (fun _ _ _ _ => trivial) (fun l m => PlrM.prP z l m) (fun a1 a2 n1 c1 n2 c2 l m w _ q1 q2 q3 q4 _ => PlrM.impl_any z a1 a2 n1 c1 n2 c2 l m w q1 q2 q3 q4) (fun a1 a2 n1 c1 n2 c2 l m w _ q1 q2 q3 q4 => PlrS.spec_any z a1 a2 n1 c1 n2 c2 l m w q1 q2 q3 q4) a1 a2 n1 c1 n2 c2 l1 l2 w h1 h2 h3 h4 trivial)
#print axioms fnExactPlaceRange_proved
end Go.Proofs.Ytjllbbkpmmnkgaa
