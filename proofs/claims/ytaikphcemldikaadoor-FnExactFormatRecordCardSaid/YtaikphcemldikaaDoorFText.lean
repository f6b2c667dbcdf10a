/- FormatRecord's law, from what the row lays. -/
import Derived.Test.YtaikphcemldikaaDoorText
import Derived.Test.YtaikphcemldikaaDoorWFormatRecord
import Derived.Test.YtaikphcemldikaaDoorLaid
import Derived.Lay
import Derived.Below
namespace Go.Proofs.YtaikphcemldikaaDoor.FText
open Go.RowKit Pairs Lines Words ListI
set_option linter.unusedVariables false
theorem vars {W : World} (h : laidMetH Tryd.prog Rows.fnExactFormatRecordRow.laid W) : Vars W := by
  refine ⟨?_, ktab_of (h.filter (fun p => p.1 == "loop.example/g00876/impl.kindWords"))⟩
  have h1 := h.filter (fun p => p.1 == "internal/strconv.uint64pow10")
  exact Laid.tab_of h1
theorem walk (a1 a2 : Option Addr) (n1 c1 n2 c2 : Nat) (l1 l2 : List (Int × Int)) (w : World) (z1 : n1 ≤ maxLen) (z2 : n2 ≤ maxLen) (H1 : Holds w a1 n1 l1) (H2 : Holds w a2 n2 l2) (hL : laidMetH Tryd.prog Rows.fnExactFormatRecordRow.laid w) (hsh : World.ShapedOpen Tryd.prog w) :
    Calls Tryd.prog 5 #[.agg #[.slice a1 n1 c1, .slice a2 n2 c2]] w fun e w' => e = .returned (.bool true) ∧ Below w.heap.size w w' :=
  WFormatRecord.walk Vars (fun _ _ h hb => h.below hb) TextR.fmtR TextR.impl_any TextR.spec_any a1 a2 n1 c1 n2 c2 l1 l2 w z1 z2 H1 H2 (vars hL)
end Go.Proofs.YtaikphcemldikaaDoor.FText
