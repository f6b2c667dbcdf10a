/- FnExactMatrixRows: at every argument MatrixRows answers as its model does, leaves its arguments as they were, and its answer owns its memory. No condition. -/
import Derived.Test.YtlgfaabobpnflaaRowsI
import Derived.Test.YtlgfaabobpnflaaRowsS
import Derived.Test.YtlgfaabobpnflaaWMatrixRows
import Derived.Test.YtlgfaabobpnflaaFMatrixRows
namespace Go.Proofs.Ytlgfaabobpnflaa.RowsSaid
open RowsM
theorem said : Rows.FnExactMatrixRowsSaid := FMatrixRows.over (fun a1 a2 n1 c1 n2 c2 l1 l2 w h1 h2 h3 h4 => WMatrixRows.walk rowsP RowsI.impl_any RowsS.spec_any a1 a2 n1 c1 n2 c2 l1 l2 w h1 h2 h3 h4)
#print axioms said
end Go.Proofs.Ytlgfaabobpnflaa.RowsSaid
