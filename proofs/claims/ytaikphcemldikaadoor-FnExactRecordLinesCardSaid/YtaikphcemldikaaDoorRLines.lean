/- RecordLines' law, from what the row lays. -/
import Derived.Test.YtaikphcemldikaaDoorRecL
import Derived.Test.YtaikphcemldikaaDoorWRecordLines
import Derived.Test.YtaikphcemldikaaDoorLaid
import Derived.Lay
import Derived.Below
namespace Go.Proofs.YtaikphcemldikaaDoor.RLines
open Go.RowKit Pairs Lines Words ListI
set_option linter.unusedVariables false
theorem vars {W : World} (h : laidMetH Tryd.prog Rows.fnExactRecordLinesRow.laid W) : Vars W := by
  refine ⟨?_, ktab_of (h.filter (fun p => p.1 == "loop.example/g00876/impl.kindWords"))⟩
  have h1 := h.filter (fun p => p.1 == "internal/strconv.uint64pow10")
  exact Laid.tab_of h1
theorem walk (a1 a2 : Option Addr) (n1 c1 n2 c2 : Nat) (l1 l2 : List (Int × Int)) (z0 : Int) (w : World) (z1 : n1 ≤ maxLen) (z2 : n2 ≤ maxLen) (H1 : Holds w a1 n1 l1) (H2 : Holds w a2 n2 l2) (w0 : (Lit.int .i64 z0).wf = true) (hL : laidMetH Tryd.prog Rows.fnExactRecordLinesRow.laid w) (hsh : World.ShapedOpen Tryd.prog w) :
    Calls Tryd.prog 4 #[.agg #[.slice a1 n1 c1, .slice a2 n2 c2], .int .i64 z0] w fun e w' => e = .returned (.bool true) ∧ Below w.heap.size w w' :=
  WRecordLines.walk z0 Vars (fun _ _ h hb => h.below hb) (RecL.linesOf z0) (RecL.impl_any z0) (RecL.spec_any _ z0) a1 a2 n1 c1 n2 c2 l1 l2 w z1 z2 H1 H2 (vars hL)
end Go.Proofs.YtaikphcemldikaaDoor.RLines
