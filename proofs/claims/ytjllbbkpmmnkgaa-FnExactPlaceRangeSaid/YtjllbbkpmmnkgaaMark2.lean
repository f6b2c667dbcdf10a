/- The laws' markRecord. -/
import Derived.Test.YtjllbbkpmmnkgaaKeep
namespace Go.Proofs.Ytjllbbkpmmnkgaa.Mark2
open Go.RowKit Pairs Rec Keep

end Go.Proofs.Ytjllbbkpmmnkgaa.Mark2
